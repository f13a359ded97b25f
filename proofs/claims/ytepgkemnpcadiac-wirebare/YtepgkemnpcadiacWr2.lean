/-
  An operation has what its kind has, and nothing more: WireBare.
-/
import Derived.Test.YtepgkemnpcadiacOr
import Derived.Deep.CutBlock
import Derived.Test.YtepgkemnpcadiacWi
import Derived.Test.YtepgkemnpcadiacDd
namespace Go.Proofs.Ytepgkemnpcadiac
open Go.ChangeShapes Go.WideShapes Go.ChangeAt Go.RowKit Go.Maps
set_option linter.unusedVariables false
set_option linter.unusedSimpArgs false
set_option maxRecDepth 20000
def barO (j : Int) : Opn := if j = 0 then ⟨3, ⟨#[97]⟩, 0, 0, [], 1, false⟩ else if j = 1 then ⟨2, ⟨#[97]⟩, 0, 0, [], 0, false⟩ else ⟨1, ⟨#[97]⟩, 0, 0, [], 0, true⟩
theorem bar_bad (j : Int) : ochk (barO j) = 4 := by
  have hs : (⟨#[97]⟩ : ByteArray).toList ≠ [] := by rw [Lib.toList_data]; decide
  unfold barO
  split
  · exact ochk_of (by unfold brk S.bare; simp) (by decide)
  · split
    · exact ochk_of (by unfold brk S.bare; simp only; rw [if_neg (by decide), if_pos trivial, if_pos (Or.inl hs)]) (by decide)
    · exact ochk_of (by unfold brk S.bare; simp) (by decide)
theorem bad_kind {s : ByteArray} {a b d : Int} {l : List Vl} {c : Bool} : ochk ⟨4, s, a, b, l, d, c⟩ = 3 := ochk_of (by unfold brk S.bare; simp) (by decide)
set_option maxHeartbeats 16000000 in
theorem wireBare_walk (ki ty lo n de : Int) (tx : ByteArray) (co : Bool) (hk : wfI ki) (ht : wfI ty) (hl : wfI lo) (hn : wfI n) (hd : wfI de) (hs : tx.size ≤ maxLen) (x : Int) (hx : wfI x) (w : World) :
    Calls Try.prog 3 #[.agg #[.int .i64 ki, .int .i64 ty, .int .i64 lo, .int .i64 n, .int .i64 de, .string tx, .bool co], .int .i64 x] w fun e w' => e = .returned (.bool true) ∧ Below w.heap.size w w' := by
  have HO := hid (fun W => opraw_any ki ty lo n de tx co hk ht hl hn hd hs W)
  have HPX := hid (fun W => picked_any x 3 W hx.1 hx.2 (by decide) (by decide))
  have hp3 := pk_bd x 3 (by decide)
  have HOK := hid (raw_ok ki ty lo n de tx co)
  obtain ⟨O, hO⟩ : ∃ O, rawO ki ty lo n de tx co = O := ⟨_, rfl⟩
  rw [hO] at HO HOK
  obtain ⟨j, hj⟩ : ∃ j, pk x 3 = j := ⟨_, rfl⟩
  rw [hj] at HPX hp3
  have HJ := hid hp3
  have HCK := hid (fun W u (h : ValsAt W u O.l) => wchk_any O u W h)
  rw [HOK.out] at HCK
  obtain ⟨k, s, a, b, l, d, c⟩ := O
  have HCY := hid (fun W u (h : ValsAt W u l) => wchk_any ⟨4, s, a, b, l, d, c⟩ u W h)
  rw [bad_kind] at HCY
  have HCB := hid (fun i W => wchk_any (barO i) (.slice none 0 0) W)
  have HEB := hid (fun i W => encode_any (barO i) (.slice none 0 0) W)
  unfold opv at HO HCK HCY
  simp only at HO HCK HCY
  clear hO hk ht hl hn hd hs hx hp3 hj
  go_enter Try.func3, Try.ntmps3
  go_upto_region 1 with fail
  have HT1 : Hid ((w.alloc (.cells #[.int .i64 ki, .int .i64 ty, .int .i64 lo, .int .i64 n, .int .i64 de, .string tx, .bool co] 23)).heap[w.heap.size]? = some (.cells #[.int .i64 ki, .int .i64 ty, .int .i64 lo, .int .i64 n, .int .i64 de, .string tx, .bool co] 23 (0, 0))) := heap_alloc_new _ _
  have HB : Hid (Below w.heap.size w (w.alloc (.cells #[.int .i64 ki, .int .i64 ty, .int .i64 lo, .int .i64 n, .int .i64 de, .string tx, .bool co] 23))) := (Below.refl _ w).alloc (Nat.le_refl _) _
  generalize w.alloc (.cells #[.int .i64 ki, .int .i64 ty, .int .i64 lo, .int .i64 n, .int .i64 de, .string tx, .bool co] 23) = w1 at HT1 HB ⊢
  have x0 : w1.cell? ⟨w.heap.size, 0, none⟩ = some (.int .i64 ki) := by rw [cell_of_blk HT1.out]; rfl
  have x1 : w1.cell? ⟨w.heap.size, 1, none⟩ = some (.int .i64 ty) := by rw [cell_of_blk HT1.out]; rfl
  have x2 : w1.cell? ⟨w.heap.size, 2, none⟩ = some (.int .i64 lo) := by rw [cell_of_blk HT1.out]; rfl
  have x3 : w1.cell? ⟨w.heap.size, 3, none⟩ = some (.int .i64 n) := by rw [cell_of_blk HT1.out]; rfl
  have x4 : w1.cell? ⟨w.heap.size, 4, none⟩ = some (.int .i64 de) := by rw [cell_of_blk HT1.out]; rfl
  have x5 : w1.cell? ⟨w.heap.size, 5, none⟩ = some (.string tx) := by rw [cell_of_blk HT1.out]; rfl
  have x6 : w1.cell? ⟨w.heap.size, 6, none⟩ = some (.bool co) := by rw [cell_of_blk HT1.out]; rfl
  go_wp2_with fail
  refine (HO.out _).mono ?_
  rintro e w2 ⟨u, rfl, hvo, hb⟩
  clear x0 x1 x2 x3 x4 x5 x6
  obtain ⟨pu, nu, cu, hsh⟩ := hvo.shape3
  subst hsh
  have HVO2 := hid hvo
  have HBh := hid hb
  clear hvo hb
  replace HT1 : Hid (w2.heap[w.heap.size]? = some (.cells #[.int .i64 ki, .int .i64 ty, .int .i64 lo, .int .i64 n, .int .i64 de, .string tx, .bool co] 23 (0, 0))) := (HBh.out.block _ (blk_lt HT1.out)).trans HT1.out
  replace HB : Hid (Below w.heap.size w w2) := below_trans HB.out HBh.out HB.out.size
  have HV : Hid (VO w2 w1.heap.size (.slice pu nu cu) l) := HVO2.out
  have HS2 : Hid (w.heap.size ≤ w2.heap.size) := HB.out.size
  go_upto_region 2 with ((with_reducible show wpList _ _ _ (Oper.mk _ (.store 28 _ _) _ _ _ _ :: _) _ _); refine wp_st (by rfl) 28 _ _ (by rfl) w2.heap.size 0 [.int .i64 0, .string ⟨#[]⟩, .int .i64 0, .int .i64 0, .slice none 0 0, .int .i64 0, .bool false] 28 (.agg #[.int .i64 k, .string s, .int .i64 a, .int .i64 b, .slice pu nu cu, .int .i64 d, .bool c]) [.int .i64 k, .string s, .int .i64 a, .int .i64 b, .slice pu nu cu, .int .i64 d, .bool c] (by rfl) (by rfl) (by rfl) (heap_alloc_new _ _) (by simp) (by kernel_rfl) (by rfl) ?_; intro w3 hq1 hq2; have HU3 := hid hq1; have HF3 := hid hq2; clear hq1 hq2)
  have HBn3 : Hid (Below w2.heap.size w2 w3) := below_fr ((Below.refl _ _).alloc (Nat.le_refl _) _) HF3.out (Nat.le_refl _)
  replace HT1 : Hid (w3.heap[w.heap.size]? = some (.cells #[.int .i64 ki, .int .i64 ty, .int .i64 lo, .int .i64 n, .int .i64 de, .string tx, .bool co] 23 (0, 0))) := (HBn3.out.block _ (blk_lt HT1.out)).trans HT1.out
  replace HB : Hid (Below w.heap.size w w3) := below_trans HB.out HBn3.out HB.out.size
  replace HV : Hid (VO w3 w1.heap.size (.slice pu nu cu) l) := HV.out.kept (fun i _ hi => HBn3.out.block i hi)
  have HT5 : Hid (w3.heap[w2.heap.size]? = some (.cells #[.int .i64 k, .string s, .int .i64 a, .int .i64 b, .slice pu nu cu, .int .i64 d, .bool c] 28 (0, 0))) := HU3.out
  clear HU3 HF3
  have x0 : w3.cell? ⟨w2.heap.size, 0, none⟩ = some (.int .i64 k) := by rw [cell_of_blk HT5.out]; rfl
  have x1 : w3.cell? ⟨w2.heap.size, 1, none⟩ = some (.string s) := by rw [cell_of_blk HT5.out]; rfl
  have x2 : w3.cell? ⟨w2.heap.size, 2, none⟩ = some (.int .i64 a) := by rw [cell_of_blk HT5.out]; rfl
  have x3 : w3.cell? ⟨w2.heap.size, 3, none⟩ = some (.int .i64 b) := by rw [cell_of_blk HT5.out]; rfl
  have x4 : w3.cell? ⟨w2.heap.size, 4, none⟩ = some (.slice pu nu cu) := by rw [cell_of_blk HT5.out]; rfl
  have x5 : w3.cell? ⟨w2.heap.size, 5, none⟩ = some (.int .i64 d) := by rw [cell_of_blk HT5.out]; rfl
  have x6 : w3.cell? ⟨w2.heap.size, 6, none⟩ = some (.bool c) := by rw [cell_of_blk HT5.out]; rfl
  go_wp2_with fail
  refine (HCK.out _ _ HV.out.va).mono ?_
  rintro e w4 ⟨rfl, hb⟩
  clear x0 x1 x2 x3 x4 x5 x6
  have HBh4 := hid hb
  clear hb
  replace HT1 : Hid (w4.heap[w.heap.size]? = some (.cells #[.int .i64 ki, .int .i64 ty, .int .i64 lo, .int .i64 n, .int .i64 de, .string tx, .bool co] 23 (0, 0))) := (HBh4.out.block _ (blk_lt HT1.out)).trans HT1.out
  replace HB : Hid (Below w.heap.size w w4) := below_trans HB.out HBh4.out HB.out.size
  replace HV : Hid (VO w4 w1.heap.size (.slice pu nu cu) l) := HV.out.kept (fun i _ hi => HBh4.out.block i hi)
  replace HT5 : Hid (w4.heap[w2.heap.size]? = some (.cells #[.int .i64 k, .string s, .int .i64 a, .int .i64 b, .slice pu nu cu, .int .i64 d, .bool c] 28 (0, 0))) := (HBh4.out.block _ (blk_lt HT5.out)).trans HT5.out
  have HS4 : Hid (w2.heap.size < w4.heap.size) := blk_lt HT5.out
  have x0 : w4.cell? ⟨w2.heap.size, 0, none⟩ = some (.int .i64 k) := by rw [cell_of_blk HT5.out]; rfl
  have x1 : w4.cell? ⟨w2.heap.size, 1, none⟩ = some (.string s) := by rw [cell_of_blk HT5.out]; rfl
  have x2 : w4.cell? ⟨w2.heap.size, 2, none⟩ = some (.int .i64 a) := by rw [cell_of_blk HT5.out]; rfl
  have x3 : w4.cell? ⟨w2.heap.size, 3, none⟩ = some (.int .i64 b) := by rw [cell_of_blk HT5.out]; rfl
  have x4 : w4.cell? ⟨w2.heap.size, 4, none⟩ = some (.slice pu nu cu) := by rw [cell_of_blk HT5.out]; rfl
  have x5 : w4.cell? ⟨w2.heap.size, 5, none⟩ = some (.int .i64 d) := by rw [cell_of_blk HT5.out]; rfl
  have x6 : w4.cell? ⟨w2.heap.size, 6, none⟩ = some (.bool c) := by rw [cell_of_blk HT5.out]; rfl
  go_upto_region 5 with ((with_reducible show wpList _ _ _ (Oper.mk _ (.store 28 _ _) _ _ _ _ :: _) _ _); refine wp_st (by rfl) 28 _ _ (by rfl) w4.heap.size 0 [.int .i64 0, .string ⟨#[]⟩, .int .i64 0, .int .i64 0, .slice none 0 0, .int .i64 0, .bool false] 28 (.agg #[.int .i64 k, .string s, .int .i64 a, .int .i64 b, .slice pu nu cu, .int .i64 d, .bool c]) [.int .i64 k, .string s, .int .i64 a, .int .i64 b, .slice pu nu cu, .int .i64 d, .bool c] (by rfl) (by rfl) (by rfl) (heap_alloc_new _ _) (by simp) (by kernel_rfl) (by rfl) ?_; intro w5 hq1 hq2; have HU5 := hid hq1; have HF5 := hid hq2; clear hq1 hq2)
  have HBn5 : Hid (Below w4.heap.size w4 w5) := below_fr ((Below.refl _ _).alloc (Nat.le_refl _) _) HF5.out (Nat.le_refl _)
  replace HT1 : Hid (w5.heap[w.heap.size]? = some (.cells #[.int .i64 ki, .int .i64 ty, .int .i64 lo, .int .i64 n, .int .i64 de, .string tx, .bool co] 23 (0, 0))) := (HBn5.out.block _ (blk_lt HT1.out)).trans HT1.out
  replace HB : Hid (Below w.heap.size w w5) := below_trans HB.out HBn5.out HB.out.size
  replace HV : Hid (VO w5 w1.heap.size (.slice pu nu cu) l) := HV.out.kept (fun i _ hi => HBn5.out.block i hi)
  replace HT5 : Hid (w5.heap[w2.heap.size]? = some (.cells #[.int .i64 k, .string s, .int .i64 a, .int .i64 b, .slice pu nu cu, .int .i64 d, .bool c] 28 (0, 0))) := (HBn5.out.block _ (blk_lt HT5.out)).trans HT5.out
  have HT6 : Hid (w5.heap[w4.heap.size]? = some (.cells #[.int .i64 k, .string s, .int .i64 a, .int .i64 b, .slice pu nu cu, .int .i64 d, .bool c] 28 (0, 0))) := HU5.out
  clear HU5 HF5
  clear x0 x1 x2 x3 x4 x5 x6
  go_wp2_with fail
  refine (HPX.out _).mono ?_
  rintro e w5 ⟨rfl, rfl⟩
  rcases (by have := HJ.out; omega : j = 0 ∨ j = 1 ∨ j = 2) with rfl | rfl | rfl
  · go_upto_region 11 with ((with_reducible show wpList _ _ _ (Oper.mk _ (.store 28 _ _) _ _ _ _ :: _) _ _); refine wp_st (by rfl) 28 _ _ (by rfl) (w4.heap.size) 0 [.int .i64 k, .string s, .int .i64 a, .int .i64 b, .slice pu nu cu, .int .i64 d, .bool c] 28 (.agg #[.int .i64 3, .string ⟨#[97]⟩, .int .i64 0, .int .i64 0, .slice none 0 0, .int .i64 1, .bool false]) [.int .i64 3, .string ⟨#[97]⟩, .int .i64 0, .int .i64 0, .slice none 0 0, .int .i64 1, .bool false] (by rfl) (by rfl) (by rfl) HT6.out (by simp) (by kernel_rfl) (by rfl) ?_; intro w6 hq1 hq2; have HU6 := hid hq1; have HF6 := hid hq2; clear hq1 hq2)
    replace HT1 : Hid (w6.heap[w.heap.size]? = some (.cells #[.int .i64 ki, .int .i64 ty, .int .i64 lo, .int .i64 n, .int .i64 de, .string tx, .bool co] 23 (0, 0))) := hid (blk_set HT1.out HF6.out (by first | omega | (have := HS2.out; have := HS4.out; omega)))
    replace HB : Hid (Below w.heap.size w w6) := below_fr HB.out HF6.out (by first | omega | (have := HS2.out; have := HS4.out; omega))
    replace HV : Hid (VO w6 w1.heap.size (.slice pu nu cu) l) := HV.out.fr HF6.out HT6.out (by decide)
    replace HT5 : Hid (w6.heap[w2.heap.size]? = some (.cells #[.int .i64 k, .string s, .int .i64 a, .int .i64 b, .slice pu nu cu, .int .i64 d, .bool c] 28 (0, 0))) := hid (blk_set HT5.out HF6.out (by first | omega | (have := HS2.out; have := HS4.out; omega)))
    replace HT6 : Hid (w6.heap[w4.heap.size]? = some (.cells #[.int .i64 3, .string ⟨#[97]⟩, .int .i64 0, .int .i64 0, .slice none 0 0, .int .i64 1, .bool false] 28 (0, 0))) := HU6.out
    clear HU6 HF6
    have HE9 := hid (HEB.out 0)
    have HC9 := hid (HCB.out 0)
    rw [bar_bad] at HE9 HC9
    have e9 : barO 0 = ⟨3, ⟨#[97]⟩, 0, 0, [], 1, false⟩ := rfl
    rw [e9] at HE9 HC9
    unfold opv at HE9 HC9
    simp only at HE9 HC9
    clear e9
    have x0 : w6.cell? ⟨w4.heap.size, 0, none⟩ = some (.int .i64 3) := by rw [cell_of_blk HT6.out]; rfl
    have x1 : w6.cell? ⟨w4.heap.size, 1, none⟩ = some (.string ⟨#[97]⟩) := by rw [cell_of_blk HT6.out]; rfl
    have x2 : w6.cell? ⟨w4.heap.size, 2, none⟩ = some (.int .i64 0) := by rw [cell_of_blk HT6.out]; rfl
    have x3 : w6.cell? ⟨w4.heap.size, 3, none⟩ = some (.int .i64 0) := by rw [cell_of_blk HT6.out]; rfl
    have x4 : w6.cell? ⟨w4.heap.size, 4, none⟩ = some (.slice none 0 0) := by rw [cell_of_blk HT6.out]; rfl
    have x5 : w6.cell? ⟨w4.heap.size, 5, none⟩ = some (.int .i64 1) := by rw [cell_of_blk HT6.out]; rfl
    have x6 : w6.cell? ⟨w4.heap.size, 6, none⟩ = some (.bool false) := by rw [cell_of_blk HT6.out]; rfl
    go_wp2_with fail
    refine (HE9.out _ (VO.nil _ 0).va).mono ?_
    rintro e w7 ⟨v7, rfl, ho, hb⟩
    clear x0 x1 x2 x3 x4 x5 x6
    obtain ⟨p7, n7, c7, hsh⟩ := ho.shape3
    subst hsh
    have HBh7 := hid hb
    clear ho hb
    replace HT1 : Hid (w7.heap[w.heap.size]? = some (.cells #[.int .i64 ki, .int .i64 ty, .int .i64 lo, .int .i64 n, .int .i64 de, .string tx, .bool co] 23 (0, 0))) := (HBh7.out.block _ (blk_lt HT1.out)).trans HT1.out
    replace HB : Hid (Below w.heap.size w w7) := below_trans HB.out HBh7.out HB.out.size
    replace HV : Hid (VO w7 w1.heap.size (.slice pu nu cu) l) := HV.out.kept (fun i _ hi => HBh7.out.block i hi)
    replace HT5 : Hid (w7.heap[w2.heap.size]? = some (.cells #[.int .i64 k, .string s, .int .i64 a, .int .i64 b, .slice pu nu cu, .int .i64 d, .bool c] 28 (0, 0))) := (HBh7.out.block _ (blk_lt HT5.out)).trans HT5.out
    replace HT6 : Hid (w7.heap[w4.heap.size]? = some (.cells #[.int .i64 3, .string ⟨#[97]⟩, .int .i64 0, .int .i64 0, .slice none 0 0, .int .i64 1, .bool false] 28 (0, 0))) := (HBh7.out.block _ (blk_lt HT6.out)).trans HT6.out
    have HS7 : Hid (w4.heap.size < w7.heap.size) := blk_lt HT6.out
    have x0 : w7.cell? ⟨w2.heap.size, 0, none⟩ = some (.int .i64 k) := by rw [cell_of_blk HT5.out]; rfl
    have x1 : w7.cell? ⟨w2.heap.size, 1, none⟩ = some (.string s) := by rw [cell_of_blk HT5.out]; rfl
    have x2 : w7.cell? ⟨w2.heap.size, 2, none⟩ = some (.int .i64 a) := by rw [cell_of_blk HT5.out]; rfl
    have x3 : w7.cell? ⟨w2.heap.size, 3, none⟩ = some (.int .i64 b) := by rw [cell_of_blk HT5.out]; rfl
    have x4 : w7.cell? ⟨w2.heap.size, 4, none⟩ = some (.slice pu nu cu) := by rw [cell_of_blk HT5.out]; rfl
    have x5 : w7.cell? ⟨w2.heap.size, 5, none⟩ = some (.int .i64 d) := by rw [cell_of_blk HT5.out]; rfl
    have x6 : w7.cell? ⟨w2.heap.size, 6, none⟩ = some (.bool c) := by rw [cell_of_blk HT5.out]; rfl
    go_upto_region 13 with ((with_reducible show wpList _ _ _ (Oper.mk _ (.store 28 _ _) _ _ _ _ :: _) _ _); refine wp_st (by rfl) 28 _ _ (by rfl) w7.heap.size 0 [.int .i64 0, .string ⟨#[]⟩, .int .i64 0, .int .i64 0, .slice none 0 0, .int .i64 0, .bool false] 28 (.agg #[.int .i64 k, .string s, .int .i64 a, .int .i64 b, .slice pu nu cu, .int .i64 d, .bool c]) [.int .i64 k, .string s, .int .i64 a, .int .i64 b, .slice pu nu cu, .int .i64 d, .bool c] (by rfl) (by rfl) (by rfl) (heap_alloc_new _ _) (by simp) (by kernel_rfl) (by rfl) ?_; intro w8 hq1 hq2; have HU8 := hid hq1; have HF8 := hid hq2; clear hq1 hq2)
    have HBn8 : Hid (Below w7.heap.size w7 w8) := below_fr ((Below.refl _ _).alloc (Nat.le_refl _) _) HF8.out (Nat.le_refl _)
    replace HT1 : Hid (w8.heap[w.heap.size]? = some (.cells #[.int .i64 ki, .int .i64 ty, .int .i64 lo, .int .i64 n, .int .i64 de, .string tx, .bool co] 23 (0, 0))) := (HBn8.out.block _ (blk_lt HT1.out)).trans HT1.out
    replace HB : Hid (Below w.heap.size w w8) := below_trans HB.out HBn8.out HB.out.size
    replace HV : Hid (VO w8 w1.heap.size (.slice pu nu cu) l) := HV.out.kept (fun i _ hi => HBn8.out.block i hi)
    replace HT5 : Hid (w8.heap[w2.heap.size]? = some (.cells #[.int .i64 k, .string s, .int .i64 a, .int .i64 b, .slice pu nu cu, .int .i64 d, .bool c] 28 (0, 0))) := (HBn8.out.block _ (blk_lt HT5.out)).trans HT5.out
    replace HT6 : Hid (w8.heap[w4.heap.size]? = some (.cells #[.int .i64 3, .string ⟨#[97]⟩, .int .i64 0, .int .i64 0, .slice none 0 0, .int .i64 1, .bool false] 28 (0, 0))) := (HBn8.out.block _ (blk_lt HT6.out)).trans HT6.out
    have HT9 : Hid (w8.heap[w7.heap.size]? = some (.cells #[.int .i64 k, .string s, .int .i64 a, .int .i64 b, .slice pu nu cu, .int .i64 d, .bool c] 28 (0, 0))) := HU8.out
    clear HU8 HF8
    clear x0 x1 x2 x3 x4 x5 x6
    go_upto_region 14 with ((with_reducible show wpList _ _ _ (Oper.mk _ (.store 3 _ _) _ _ _ _ :: _) _ _); refine wp_st (by rfl) 3 _ _ (by rfl) (w7.heap.size) 0 [.int .i64 k, .string s, .int .i64 a, .int .i64 b, .slice pu nu cu, .int .i64 d, .bool c] 28 (.int .i64 4) [.int .i64 4] (by rfl) (by rfl) (by rfl) HT9.out (by simp) (by kernel_rfl) (by rfl) ?_; intro w9 hq1 hq2; have HU9 := hid hq1; have HF9 := hid hq2; clear hq1 hq2)
    replace HT1 : Hid (w9.heap[w.heap.size]? = some (.cells #[.int .i64 ki, .int .i64 ty, .int .i64 lo, .int .i64 n, .int .i64 de, .string tx, .bool co] 23 (0, 0))) := hid (blk_set HT1.out HF9.out (by first | omega | (have := HS2.out; have := HS4.out; have := HS7.out; omega)))
    replace HB : Hid (Below w.heap.size w w9) := below_fr HB.out HF9.out (by first | omega | (have := HS2.out; have := HS4.out; have := HS7.out; omega))
    replace HV : Hid (VO w9 w1.heap.size (.slice pu nu cu) l) := HV.out.fr HF9.out HT9.out (by decide)
    replace HT5 : Hid (w9.heap[w2.heap.size]? = some (.cells #[.int .i64 k, .string s, .int .i64 a, .int .i64 b, .slice pu nu cu, .int .i64 d, .bool c] 28 (0, 0))) := hid (blk_set HT5.out HF9.out (by first | omega | (have := HS2.out; have := HS4.out; have := HS7.out; omega)))
    replace HT6 : Hid (w9.heap[w4.heap.size]? = some (.cells #[.int .i64 3, .string ⟨#[97]⟩, .int .i64 0, .int .i64 0, .slice none 0 0, .int .i64 1, .bool false] 28 (0, 0))) := hid (blk_set HT6.out HF9.out (by first | omega | (have := HS2.out; have := HS4.out; have := HS7.out; omega)))
    replace HT9 : Hid (w9.heap[w7.heap.size]? = some (.cells #[.int .i64 4, .string s, .int .i64 a, .int .i64 b, .slice pu nu cu, .int .i64 d, .bool c] 28 (0, 0))) := HU9.out
    clear HU9 HF9
    have x0 : w9.cell? ⟨w4.heap.size, 0, none⟩ = some (.int .i64 3) := by rw [cell_of_blk HT6.out]; rfl
    have x1 : w9.cell? ⟨w4.heap.size, 1, none⟩ = some (.string ⟨#[97]⟩) := by rw [cell_of_blk HT6.out]; rfl
    have x2 : w9.cell? ⟨w4.heap.size, 2, none⟩ = some (.int .i64 0) := by rw [cell_of_blk HT6.out]; rfl
    have x3 : w9.cell? ⟨w4.heap.size, 3, none⟩ = some (.int .i64 0) := by rw [cell_of_blk HT6.out]; rfl
    have x4 : w9.cell? ⟨w4.heap.size, 4, none⟩ = some (.slice none 0 0) := by rw [cell_of_blk HT6.out]; rfl
    have x5 : w9.cell? ⟨w4.heap.size, 5, none⟩ = some (.int .i64 1) := by rw [cell_of_blk HT6.out]; rfl
    have x6 : w9.cell? ⟨w4.heap.size, 6, none⟩ = some (.bool false) := by rw [cell_of_blk HT6.out]; rfl
    go_wp2_with fail
    refine (HC9.out _ (VO.nil _ 0).va).mono ?_
    rintro e w10 ⟨rfl, hb⟩
    clear x0 x1 x2 x3 x4 x5 x6
    have HBh10 := hid hb
    clear hb
    replace HT1 : Hid (w10.heap[w.heap.size]? = some (.cells #[.int .i64 ki, .int .i64 ty, .int .i64 lo, .int .i64 n, .int .i64 de, .string tx, .bool co] 23 (0, 0))) := (HBh10.out.block _ (blk_lt HT1.out)).trans HT1.out
    replace HB : Hid (Below w.heap.size w w10) := below_trans HB.out HBh10.out HB.out.size
    replace HV : Hid (VO w10 w1.heap.size (.slice pu nu cu) l) := HV.out.kept (fun i _ hi => HBh10.out.block i hi)
    replace HT5 : Hid (w10.heap[w2.heap.size]? = some (.cells #[.int .i64 k, .string s, .int .i64 a, .int .i64 b, .slice pu nu cu, .int .i64 d, .bool c] 28 (0, 0))) := (HBh10.out.block _ (blk_lt HT5.out)).trans HT5.out
    replace HT6 : Hid (w10.heap[w4.heap.size]? = some (.cells #[.int .i64 3, .string ⟨#[97]⟩, .int .i64 0, .int .i64 0, .slice none 0 0, .int .i64 1, .bool false] 28 (0, 0))) := (HBh10.out.block _ (blk_lt HT6.out)).trans HT6.out
    replace HT9 : Hid (w10.heap[w7.heap.size]? = some (.cells #[.int .i64 4, .string s, .int .i64 a, .int .i64 b, .slice pu nu cu, .int .i64 d, .bool c] 28 (0, 0))) := (HBh10.out.block _ (blk_lt HT9.out)).trans HT9.out
    have x0 : w10.cell? ⟨w7.heap.size, 0, none⟩ = some (.int .i64 4) := by rw [cell_of_blk HT9.out]; rfl
    have x1 : w10.cell? ⟨w7.heap.size, 1, none⟩ = some (.string s) := by rw [cell_of_blk HT9.out]; rfl
    have x2 : w10.cell? ⟨w7.heap.size, 2, none⟩ = some (.int .i64 a) := by rw [cell_of_blk HT9.out]; rfl
    have x3 : w10.cell? ⟨w7.heap.size, 3, none⟩ = some (.int .i64 b) := by rw [cell_of_blk HT9.out]; rfl
    have x4 : w10.cell? ⟨w7.heap.size, 4, none⟩ = some (.slice pu nu cu) := by rw [cell_of_blk HT9.out]; rfl
    have x5 : w10.cell? ⟨w7.heap.size, 5, none⟩ = some (.int .i64 d) := by rw [cell_of_blk HT9.out]; rfl
    have x6 : w10.cell? ⟨w7.heap.size, 6, none⟩ = some (.bool c) := by rw [cell_of_blk HT9.out]; rfl
    go_wp2_with fail
    refine (HCY.out _ _ HV.out.va).mono ?_
    rintro e w11 ⟨rfl, hb⟩
    clear x0 x1 x2 x3 x4 x5 x6
    have HBh11 := hid hb
    clear hb
    replace HT1 : Hid (w11.heap[w.heap.size]? = some (.cells #[.int .i64 ki, .int .i64 ty, .int .i64 lo, .int .i64 n, .int .i64 de, .string tx, .bool co] 23 (0, 0))) := (HBh11.out.block _ (blk_lt HT1.out)).trans HT1.out
    replace HB : Hid (Below w.heap.size w w11) := below_trans HB.out HBh11.out HB.out.size
    replace HV : Hid (VO w11 w1.heap.size (.slice pu nu cu) l) := HV.out.kept (fun i _ hi => HBh11.out.block i hi)
    replace HT5 : Hid (w11.heap[w2.heap.size]? = some (.cells #[.int .i64 k, .string s, .int .i64 a, .int .i64 b, .slice pu nu cu, .int .i64 d, .bool c] 28 (0, 0))) := (HBh11.out.block _ (blk_lt HT5.out)).trans HT5.out
    replace HT6 : Hid (w11.heap[w4.heap.size]? = some (.cells #[.int .i64 3, .string ⟨#[97]⟩, .int .i64 0, .int .i64 0, .slice none 0 0, .int .i64 1, .bool false] 28 (0, 0))) := (HBh11.out.block _ (blk_lt HT6.out)).trans HT6.out
    replace HT9 : Hid (w11.heap[w7.heap.size]? = some (.cells #[.int .i64 4, .string s, .int .i64 a, .int .i64 b, .slice pu nu cu, .int .i64 d, .bool c] 28 (0, 0))) := (HBh11.out.block _ (blk_lt HT9.out)).trans HT9.out
    go_wp2
    go_ret
    exact ⟨ret_bool (by simp), HB.out⟩
  · go_upto_region 11 with ((with_reducible show wpList _ _ _ (Oper.mk _ (.store 28 _ _) _ _ _ _ :: _) _ _); refine wp_st (by rfl) 28 _ _ (by rfl) (w4.heap.size) 0 [.int .i64 k, .string s, .int .i64 a, .int .i64 b, .slice pu nu cu, .int .i64 d, .bool c] 28 (.agg #[.int .i64 2, .string ⟨#[97]⟩, .int .i64 0, .int .i64 0, .slice none 0 0, .int .i64 0, .bool false]) [.int .i64 2, .string ⟨#[97]⟩, .int .i64 0, .int .i64 0, .slice none 0 0, .int .i64 0, .bool false] (by rfl) (by rfl) (by rfl) HT6.out (by simp) (by kernel_rfl) (by rfl) ?_; intro w6 hq1 hq2; have HU6 := hid hq1; have HF6 := hid hq2; clear hq1 hq2)
    replace HT1 : Hid (w6.heap[w.heap.size]? = some (.cells #[.int .i64 ki, .int .i64 ty, .int .i64 lo, .int .i64 n, .int .i64 de, .string tx, .bool co] 23 (0, 0))) := hid (blk_set HT1.out HF6.out (by first | omega | (have := HS2.out; have := HS4.out; omega)))
    replace HB : Hid (Below w.heap.size w w6) := below_fr HB.out HF6.out (by first | omega | (have := HS2.out; have := HS4.out; omega))
    replace HV : Hid (VO w6 w1.heap.size (.slice pu nu cu) l) := HV.out.fr HF6.out HT6.out (by decide)
    replace HT5 : Hid (w6.heap[w2.heap.size]? = some (.cells #[.int .i64 k, .string s, .int .i64 a, .int .i64 b, .slice pu nu cu, .int .i64 d, .bool c] 28 (0, 0))) := hid (blk_set HT5.out HF6.out (by first | omega | (have := HS2.out; have := HS4.out; omega)))
    replace HT6 : Hid (w6.heap[w4.heap.size]? = some (.cells #[.int .i64 2, .string ⟨#[97]⟩, .int .i64 0, .int .i64 0, .slice none 0 0, .int .i64 0, .bool false] 28 (0, 0))) := HU6.out
    clear HU6 HF6
    have HE9 := hid (HEB.out 1)
    have HC9 := hid (HCB.out 1)
    rw [bar_bad] at HE9 HC9
    have e9 : barO 1 = ⟨2, ⟨#[97]⟩, 0, 0, [], 0, false⟩ := rfl
    rw [e9] at HE9 HC9
    unfold opv at HE9 HC9
    simp only at HE9 HC9
    clear e9
    have x0 : w6.cell? ⟨w4.heap.size, 0, none⟩ = some (.int .i64 2) := by rw [cell_of_blk HT6.out]; rfl
    have x1 : w6.cell? ⟨w4.heap.size, 1, none⟩ = some (.string ⟨#[97]⟩) := by rw [cell_of_blk HT6.out]; rfl
    have x2 : w6.cell? ⟨w4.heap.size, 2, none⟩ = some (.int .i64 0) := by rw [cell_of_blk HT6.out]; rfl
    have x3 : w6.cell? ⟨w4.heap.size, 3, none⟩ = some (.int .i64 0) := by rw [cell_of_blk HT6.out]; rfl
    have x4 : w6.cell? ⟨w4.heap.size, 4, none⟩ = some (.slice none 0 0) := by rw [cell_of_blk HT6.out]; rfl
    have x5 : w6.cell? ⟨w4.heap.size, 5, none⟩ = some (.int .i64 0) := by rw [cell_of_blk HT6.out]; rfl
    have x6 : w6.cell? ⟨w4.heap.size, 6, none⟩ = some (.bool false) := by rw [cell_of_blk HT6.out]; rfl
    go_wp2_with fail
    refine (HE9.out _ (VO.nil _ 0).va).mono ?_
    rintro e w7 ⟨v7, rfl, ho, hb⟩
    clear x0 x1 x2 x3 x4 x5 x6
    obtain ⟨p7, n7, c7, hsh⟩ := ho.shape3
    subst hsh
    have HBh7 := hid hb
    clear ho hb
    replace HT1 : Hid (w7.heap[w.heap.size]? = some (.cells #[.int .i64 ki, .int .i64 ty, .int .i64 lo, .int .i64 n, .int .i64 de, .string tx, .bool co] 23 (0, 0))) := (HBh7.out.block _ (blk_lt HT1.out)).trans HT1.out
    replace HB : Hid (Below w.heap.size w w7) := below_trans HB.out HBh7.out HB.out.size
    replace HV : Hid (VO w7 w1.heap.size (.slice pu nu cu) l) := HV.out.kept (fun i _ hi => HBh7.out.block i hi)
    replace HT5 : Hid (w7.heap[w2.heap.size]? = some (.cells #[.int .i64 k, .string s, .int .i64 a, .int .i64 b, .slice pu nu cu, .int .i64 d, .bool c] 28 (0, 0))) := (HBh7.out.block _ (blk_lt HT5.out)).trans HT5.out
    replace HT6 : Hid (w7.heap[w4.heap.size]? = some (.cells #[.int .i64 2, .string ⟨#[97]⟩, .int .i64 0, .int .i64 0, .slice none 0 0, .int .i64 0, .bool false] 28 (0, 0))) := (HBh7.out.block _ (blk_lt HT6.out)).trans HT6.out
    have HS7 : Hid (w4.heap.size < w7.heap.size) := blk_lt HT6.out
    have x0 : w7.cell? ⟨w2.heap.size, 0, none⟩ = some (.int .i64 k) := by rw [cell_of_blk HT5.out]; rfl
    have x1 : w7.cell? ⟨w2.heap.size, 1, none⟩ = some (.string s) := by rw [cell_of_blk HT5.out]; rfl
    have x2 : w7.cell? ⟨w2.heap.size, 2, none⟩ = some (.int .i64 a) := by rw [cell_of_blk HT5.out]; rfl
    have x3 : w7.cell? ⟨w2.heap.size, 3, none⟩ = some (.int .i64 b) := by rw [cell_of_blk HT5.out]; rfl
    have x4 : w7.cell? ⟨w2.heap.size, 4, none⟩ = some (.slice pu nu cu) := by rw [cell_of_blk HT5.out]; rfl
    have x5 : w7.cell? ⟨w2.heap.size, 5, none⟩ = some (.int .i64 d) := by rw [cell_of_blk HT5.out]; rfl
    have x6 : w7.cell? ⟨w2.heap.size, 6, none⟩ = some (.bool c) := by rw [cell_of_blk HT5.out]; rfl
    go_upto_region 13 with ((with_reducible show wpList _ _ _ (Oper.mk _ (.store 28 _ _) _ _ _ _ :: _) _ _); refine wp_st (by rfl) 28 _ _ (by rfl) w7.heap.size 0 [.int .i64 0, .string ⟨#[]⟩, .int .i64 0, .int .i64 0, .slice none 0 0, .int .i64 0, .bool false] 28 (.agg #[.int .i64 k, .string s, .int .i64 a, .int .i64 b, .slice pu nu cu, .int .i64 d, .bool c]) [.int .i64 k, .string s, .int .i64 a, .int .i64 b, .slice pu nu cu, .int .i64 d, .bool c] (by rfl) (by rfl) (by rfl) (heap_alloc_new _ _) (by simp) (by kernel_rfl) (by rfl) ?_; intro w8 hq1 hq2; have HU8 := hid hq1; have HF8 := hid hq2; clear hq1 hq2)
    have HBn8 : Hid (Below w7.heap.size w7 w8) := below_fr ((Below.refl _ _).alloc (Nat.le_refl _) _) HF8.out (Nat.le_refl _)
    replace HT1 : Hid (w8.heap[w.heap.size]? = some (.cells #[.int .i64 ki, .int .i64 ty, .int .i64 lo, .int .i64 n, .int .i64 de, .string tx, .bool co] 23 (0, 0))) := (HBn8.out.block _ (blk_lt HT1.out)).trans HT1.out
    replace HB : Hid (Below w.heap.size w w8) := below_trans HB.out HBn8.out HB.out.size
    replace HV : Hid (VO w8 w1.heap.size (.slice pu nu cu) l) := HV.out.kept (fun i _ hi => HBn8.out.block i hi)
    replace HT5 : Hid (w8.heap[w2.heap.size]? = some (.cells #[.int .i64 k, .string s, .int .i64 a, .int .i64 b, .slice pu nu cu, .int .i64 d, .bool c] 28 (0, 0))) := (HBn8.out.block _ (blk_lt HT5.out)).trans HT5.out
    replace HT6 : Hid (w8.heap[w4.heap.size]? = some (.cells #[.int .i64 2, .string ⟨#[97]⟩, .int .i64 0, .int .i64 0, .slice none 0 0, .int .i64 0, .bool false] 28 (0, 0))) := (HBn8.out.block _ (blk_lt HT6.out)).trans HT6.out
    have HT9 : Hid (w8.heap[w7.heap.size]? = some (.cells #[.int .i64 k, .string s, .int .i64 a, .int .i64 b, .slice pu nu cu, .int .i64 d, .bool c] 28 (0, 0))) := HU8.out
    clear HU8 HF8
    clear x0 x1 x2 x3 x4 x5 x6
    go_upto_region 14 with ((with_reducible show wpList _ _ _ (Oper.mk _ (.store 3 _ _) _ _ _ _ :: _) _ _); refine wp_st (by rfl) 3 _ _ (by rfl) (w7.heap.size) 0 [.int .i64 k, .string s, .int .i64 a, .int .i64 b, .slice pu nu cu, .int .i64 d, .bool c] 28 (.int .i64 4) [.int .i64 4] (by rfl) (by rfl) (by rfl) HT9.out (by simp) (by kernel_rfl) (by rfl) ?_; intro w9 hq1 hq2; have HU9 := hid hq1; have HF9 := hid hq2; clear hq1 hq2)
    replace HT1 : Hid (w9.heap[w.heap.size]? = some (.cells #[.int .i64 ki, .int .i64 ty, .int .i64 lo, .int .i64 n, .int .i64 de, .string tx, .bool co] 23 (0, 0))) := hid (blk_set HT1.out HF9.out (by first | omega | (have := HS2.out; have := HS4.out; have := HS7.out; omega)))
    replace HB : Hid (Below w.heap.size w w9) := below_fr HB.out HF9.out (by first | omega | (have := HS2.out; have := HS4.out; have := HS7.out; omega))
    replace HV : Hid (VO w9 w1.heap.size (.slice pu nu cu) l) := HV.out.fr HF9.out HT9.out (by decide)
    replace HT5 : Hid (w9.heap[w2.heap.size]? = some (.cells #[.int .i64 k, .string s, .int .i64 a, .int .i64 b, .slice pu nu cu, .int .i64 d, .bool c] 28 (0, 0))) := hid (blk_set HT5.out HF9.out (by first | omega | (have := HS2.out; have := HS4.out; have := HS7.out; omega)))
    replace HT6 : Hid (w9.heap[w4.heap.size]? = some (.cells #[.int .i64 2, .string ⟨#[97]⟩, .int .i64 0, .int .i64 0, .slice none 0 0, .int .i64 0, .bool false] 28 (0, 0))) := hid (blk_set HT6.out HF9.out (by first | omega | (have := HS2.out; have := HS4.out; have := HS7.out; omega)))
    replace HT9 : Hid (w9.heap[w7.heap.size]? = some (.cells #[.int .i64 4, .string s, .int .i64 a, .int .i64 b, .slice pu nu cu, .int .i64 d, .bool c] 28 (0, 0))) := HU9.out
    clear HU9 HF9
    have x0 : w9.cell? ⟨w4.heap.size, 0, none⟩ = some (.int .i64 2) := by rw [cell_of_blk HT6.out]; rfl
    have x1 : w9.cell? ⟨w4.heap.size, 1, none⟩ = some (.string ⟨#[97]⟩) := by rw [cell_of_blk HT6.out]; rfl
    have x2 : w9.cell? ⟨w4.heap.size, 2, none⟩ = some (.int .i64 0) := by rw [cell_of_blk HT6.out]; rfl
    have x3 : w9.cell? ⟨w4.heap.size, 3, none⟩ = some (.int .i64 0) := by rw [cell_of_blk HT6.out]; rfl
    have x4 : w9.cell? ⟨w4.heap.size, 4, none⟩ = some (.slice none 0 0) := by rw [cell_of_blk HT6.out]; rfl
    have x5 : w9.cell? ⟨w4.heap.size, 5, none⟩ = some (.int .i64 0) := by rw [cell_of_blk HT6.out]; rfl
    have x6 : w9.cell? ⟨w4.heap.size, 6, none⟩ = some (.bool false) := by rw [cell_of_blk HT6.out]; rfl
    go_wp2_with fail
    refine (HC9.out _ (VO.nil _ 0).va).mono ?_
    rintro e w10 ⟨rfl, hb⟩
    clear x0 x1 x2 x3 x4 x5 x6
    have HBh10 := hid hb
    clear hb
    replace HT1 : Hid (w10.heap[w.heap.size]? = some (.cells #[.int .i64 ki, .int .i64 ty, .int .i64 lo, .int .i64 n, .int .i64 de, .string tx, .bool co] 23 (0, 0))) := (HBh10.out.block _ (blk_lt HT1.out)).trans HT1.out
    replace HB : Hid (Below w.heap.size w w10) := below_trans HB.out HBh10.out HB.out.size
    replace HV : Hid (VO w10 w1.heap.size (.slice pu nu cu) l) := HV.out.kept (fun i _ hi => HBh10.out.block i hi)
    replace HT5 : Hid (w10.heap[w2.heap.size]? = some (.cells #[.int .i64 k, .string s, .int .i64 a, .int .i64 b, .slice pu nu cu, .int .i64 d, .bool c] 28 (0, 0))) := (HBh10.out.block _ (blk_lt HT5.out)).trans HT5.out
    replace HT6 : Hid (w10.heap[w4.heap.size]? = some (.cells #[.int .i64 2, .string ⟨#[97]⟩, .int .i64 0, .int .i64 0, .slice none 0 0, .int .i64 0, .bool false] 28 (0, 0))) := (HBh10.out.block _ (blk_lt HT6.out)).trans HT6.out
    replace HT9 : Hid (w10.heap[w7.heap.size]? = some (.cells #[.int .i64 4, .string s, .int .i64 a, .int .i64 b, .slice pu nu cu, .int .i64 d, .bool c] 28 (0, 0))) := (HBh10.out.block _ (blk_lt HT9.out)).trans HT9.out
    have x0 : w10.cell? ⟨w7.heap.size, 0, none⟩ = some (.int .i64 4) := by rw [cell_of_blk HT9.out]; rfl
    have x1 : w10.cell? ⟨w7.heap.size, 1, none⟩ = some (.string s) := by rw [cell_of_blk HT9.out]; rfl
    have x2 : w10.cell? ⟨w7.heap.size, 2, none⟩ = some (.int .i64 a) := by rw [cell_of_blk HT9.out]; rfl
    have x3 : w10.cell? ⟨w7.heap.size, 3, none⟩ = some (.int .i64 b) := by rw [cell_of_blk HT9.out]; rfl
    have x4 : w10.cell? ⟨w7.heap.size, 4, none⟩ = some (.slice pu nu cu) := by rw [cell_of_blk HT9.out]; rfl
    have x5 : w10.cell? ⟨w7.heap.size, 5, none⟩ = some (.int .i64 d) := by rw [cell_of_blk HT9.out]; rfl
    have x6 : w10.cell? ⟨w7.heap.size, 6, none⟩ = some (.bool c) := by rw [cell_of_blk HT9.out]; rfl
    go_wp2_with fail
    refine (HCY.out _ _ HV.out.va).mono ?_
    rintro e w11 ⟨rfl, hb⟩
    clear x0 x1 x2 x3 x4 x5 x6
    have HBh11 := hid hb
    clear hb
    replace HT1 : Hid (w11.heap[w.heap.size]? = some (.cells #[.int .i64 ki, .int .i64 ty, .int .i64 lo, .int .i64 n, .int .i64 de, .string tx, .bool co] 23 (0, 0))) := (HBh11.out.block _ (blk_lt HT1.out)).trans HT1.out
    replace HB : Hid (Below w.heap.size w w11) := below_trans HB.out HBh11.out HB.out.size
    replace HV : Hid (VO w11 w1.heap.size (.slice pu nu cu) l) := HV.out.kept (fun i _ hi => HBh11.out.block i hi)
    replace HT5 : Hid (w11.heap[w2.heap.size]? = some (.cells #[.int .i64 k, .string s, .int .i64 a, .int .i64 b, .slice pu nu cu, .int .i64 d, .bool c] 28 (0, 0))) := (HBh11.out.block _ (blk_lt HT5.out)).trans HT5.out
    replace HT6 : Hid (w11.heap[w4.heap.size]? = some (.cells #[.int .i64 2, .string ⟨#[97]⟩, .int .i64 0, .int .i64 0, .slice none 0 0, .int .i64 0, .bool false] 28 (0, 0))) := (HBh11.out.block _ (blk_lt HT6.out)).trans HT6.out
    replace HT9 : Hid (w11.heap[w7.heap.size]? = some (.cells #[.int .i64 4, .string s, .int .i64 a, .int .i64 b, .slice pu nu cu, .int .i64 d, .bool c] 28 (0, 0))) := (HBh11.out.block _ (blk_lt HT9.out)).trans HT9.out
    go_wp2
    go_ret
    exact ⟨ret_bool (by simp), HB.out⟩
  · go_upto_region 11 with ((with_reducible show wpList _ _ _ (Oper.mk _ (.store 28 _ _) _ _ _ _ :: _) _ _); refine wp_st (by rfl) 28 _ _ (by rfl) (w4.heap.size) 0 [.int .i64 k, .string s, .int .i64 a, .int .i64 b, .slice pu nu cu, .int .i64 d, .bool c] 28 (.agg #[.int .i64 1, .string ⟨#[97]⟩, .int .i64 0, .int .i64 0, .slice none 0 0, .int .i64 0, .bool true]) [.int .i64 1, .string ⟨#[97]⟩, .int .i64 0, .int .i64 0, .slice none 0 0, .int .i64 0, .bool true] (by rfl) (by rfl) (by rfl) HT6.out (by simp) (by kernel_rfl) (by rfl) ?_; intro w6 hq1 hq2; have HU6 := hid hq1; have HF6 := hid hq2; clear hq1 hq2)
    replace HT1 : Hid (w6.heap[w.heap.size]? = some (.cells #[.int .i64 ki, .int .i64 ty, .int .i64 lo, .int .i64 n, .int .i64 de, .string tx, .bool co] 23 (0, 0))) := hid (blk_set HT1.out HF6.out (by first | omega | (have := HS2.out; have := HS4.out; omega)))
    replace HB : Hid (Below w.heap.size w w6) := below_fr HB.out HF6.out (by first | omega | (have := HS2.out; have := HS4.out; omega))
    replace HV : Hid (VO w6 w1.heap.size (.slice pu nu cu) l) := HV.out.fr HF6.out HT6.out (by decide)
    replace HT5 : Hid (w6.heap[w2.heap.size]? = some (.cells #[.int .i64 k, .string s, .int .i64 a, .int .i64 b, .slice pu nu cu, .int .i64 d, .bool c] 28 (0, 0))) := hid (blk_set HT5.out HF6.out (by first | omega | (have := HS2.out; have := HS4.out; omega)))
    replace HT6 : Hid (w6.heap[w4.heap.size]? = some (.cells #[.int .i64 1, .string ⟨#[97]⟩, .int .i64 0, .int .i64 0, .slice none 0 0, .int .i64 0, .bool true] 28 (0, 0))) := HU6.out
    clear HU6 HF6
    have HE9 := hid (HEB.out 2)
    have HC9 := hid (HCB.out 2)
    rw [bar_bad] at HE9 HC9
    have e9 : barO 2 = ⟨1, ⟨#[97]⟩, 0, 0, [], 0, true⟩ := rfl
    rw [e9] at HE9 HC9
    unfold opv at HE9 HC9
    simp only at HE9 HC9
    clear e9
    have x0 : w6.cell? ⟨w4.heap.size, 0, none⟩ = some (.int .i64 1) := by rw [cell_of_blk HT6.out]; rfl
    have x1 : w6.cell? ⟨w4.heap.size, 1, none⟩ = some (.string ⟨#[97]⟩) := by rw [cell_of_blk HT6.out]; rfl
    have x2 : w6.cell? ⟨w4.heap.size, 2, none⟩ = some (.int .i64 0) := by rw [cell_of_blk HT6.out]; rfl
    have x3 : w6.cell? ⟨w4.heap.size, 3, none⟩ = some (.int .i64 0) := by rw [cell_of_blk HT6.out]; rfl
    have x4 : w6.cell? ⟨w4.heap.size, 4, none⟩ = some (.slice none 0 0) := by rw [cell_of_blk HT6.out]; rfl
    have x5 : w6.cell? ⟨w4.heap.size, 5, none⟩ = some (.int .i64 0) := by rw [cell_of_blk HT6.out]; rfl
    have x6 : w6.cell? ⟨w4.heap.size, 6, none⟩ = some (.bool true) := by rw [cell_of_blk HT6.out]; rfl
    go_wp2_with fail
    refine (HE9.out _ (VO.nil _ 0).va).mono ?_
    rintro e w7 ⟨v7, rfl, ho, hb⟩
    clear x0 x1 x2 x3 x4 x5 x6
    obtain ⟨p7, n7, c7, hsh⟩ := ho.shape3
    subst hsh
    have HBh7 := hid hb
    clear ho hb
    replace HT1 : Hid (w7.heap[w.heap.size]? = some (.cells #[.int .i64 ki, .int .i64 ty, .int .i64 lo, .int .i64 n, .int .i64 de, .string tx, .bool co] 23 (0, 0))) := (HBh7.out.block _ (blk_lt HT1.out)).trans HT1.out
    replace HB : Hid (Below w.heap.size w w7) := below_trans HB.out HBh7.out HB.out.size
    replace HV : Hid (VO w7 w1.heap.size (.slice pu nu cu) l) := HV.out.kept (fun i _ hi => HBh7.out.block i hi)
    replace HT5 : Hid (w7.heap[w2.heap.size]? = some (.cells #[.int .i64 k, .string s, .int .i64 a, .int .i64 b, .slice pu nu cu, .int .i64 d, .bool c] 28 (0, 0))) := (HBh7.out.block _ (blk_lt HT5.out)).trans HT5.out
    replace HT6 : Hid (w7.heap[w4.heap.size]? = some (.cells #[.int .i64 1, .string ⟨#[97]⟩, .int .i64 0, .int .i64 0, .slice none 0 0, .int .i64 0, .bool true] 28 (0, 0))) := (HBh7.out.block _ (blk_lt HT6.out)).trans HT6.out
    have HS7 : Hid (w4.heap.size < w7.heap.size) := blk_lt HT6.out
    have x0 : w7.cell? ⟨w2.heap.size, 0, none⟩ = some (.int .i64 k) := by rw [cell_of_blk HT5.out]; rfl
    have x1 : w7.cell? ⟨w2.heap.size, 1, none⟩ = some (.string s) := by rw [cell_of_blk HT5.out]; rfl
    have x2 : w7.cell? ⟨w2.heap.size, 2, none⟩ = some (.int .i64 a) := by rw [cell_of_blk HT5.out]; rfl
    have x3 : w7.cell? ⟨w2.heap.size, 3, none⟩ = some (.int .i64 b) := by rw [cell_of_blk HT5.out]; rfl
    have x4 : w7.cell? ⟨w2.heap.size, 4, none⟩ = some (.slice pu nu cu) := by rw [cell_of_blk HT5.out]; rfl
    have x5 : w7.cell? ⟨w2.heap.size, 5, none⟩ = some (.int .i64 d) := by rw [cell_of_blk HT5.out]; rfl
    have x6 : w7.cell? ⟨w2.heap.size, 6, none⟩ = some (.bool c) := by rw [cell_of_blk HT5.out]; rfl
    go_upto_region 13 with ((with_reducible show wpList _ _ _ (Oper.mk _ (.store 28 _ _) _ _ _ _ :: _) _ _); refine wp_st (by rfl) 28 _ _ (by rfl) w7.heap.size 0 [.int .i64 0, .string ⟨#[]⟩, .int .i64 0, .int .i64 0, .slice none 0 0, .int .i64 0, .bool false] 28 (.agg #[.int .i64 k, .string s, .int .i64 a, .int .i64 b, .slice pu nu cu, .int .i64 d, .bool c]) [.int .i64 k, .string s, .int .i64 a, .int .i64 b, .slice pu nu cu, .int .i64 d, .bool c] (by rfl) (by rfl) (by rfl) (heap_alloc_new _ _) (by simp) (by kernel_rfl) (by rfl) ?_; intro w8 hq1 hq2; have HU8 := hid hq1; have HF8 := hid hq2; clear hq1 hq2)
    have HBn8 : Hid (Below w7.heap.size w7 w8) := below_fr ((Below.refl _ _).alloc (Nat.le_refl _) _) HF8.out (Nat.le_refl _)
    replace HT1 : Hid (w8.heap[w.heap.size]? = some (.cells #[.int .i64 ki, .int .i64 ty, .int .i64 lo, .int .i64 n, .int .i64 de, .string tx, .bool co] 23 (0, 0))) := (HBn8.out.block _ (blk_lt HT1.out)).trans HT1.out
    replace HB : Hid (Below w.heap.size w w8) := below_trans HB.out HBn8.out HB.out.size
    replace HV : Hid (VO w8 w1.heap.size (.slice pu nu cu) l) := HV.out.kept (fun i _ hi => HBn8.out.block i hi)
    replace HT5 : Hid (w8.heap[w2.heap.size]? = some (.cells #[.int .i64 k, .string s, .int .i64 a, .int .i64 b, .slice pu nu cu, .int .i64 d, .bool c] 28 (0, 0))) := (HBn8.out.block _ (blk_lt HT5.out)).trans HT5.out
    replace HT6 : Hid (w8.heap[w4.heap.size]? = some (.cells #[.int .i64 1, .string ⟨#[97]⟩, .int .i64 0, .int .i64 0, .slice none 0 0, .int .i64 0, .bool true] 28 (0, 0))) := (HBn8.out.block _ (blk_lt HT6.out)).trans HT6.out
    have HT9 : Hid (w8.heap[w7.heap.size]? = some (.cells #[.int .i64 k, .string s, .int .i64 a, .int .i64 b, .slice pu nu cu, .int .i64 d, .bool c] 28 (0, 0))) := HU8.out
    clear HU8 HF8
    clear x0 x1 x2 x3 x4 x5 x6
    go_upto_region 14 with ((with_reducible show wpList _ _ _ (Oper.mk _ (.store 3 _ _) _ _ _ _ :: _) _ _); refine wp_st (by rfl) 3 _ _ (by rfl) (w7.heap.size) 0 [.int .i64 k, .string s, .int .i64 a, .int .i64 b, .slice pu nu cu, .int .i64 d, .bool c] 28 (.int .i64 4) [.int .i64 4] (by rfl) (by rfl) (by rfl) HT9.out (by simp) (by kernel_rfl) (by rfl) ?_; intro w9 hq1 hq2; have HU9 := hid hq1; have HF9 := hid hq2; clear hq1 hq2)
    replace HT1 : Hid (w9.heap[w.heap.size]? = some (.cells #[.int .i64 ki, .int .i64 ty, .int .i64 lo, .int .i64 n, .int .i64 de, .string tx, .bool co] 23 (0, 0))) := hid (blk_set HT1.out HF9.out (by first | omega | (have := HS2.out; have := HS4.out; have := HS7.out; omega)))
    replace HB : Hid (Below w.heap.size w w9) := below_fr HB.out HF9.out (by first | omega | (have := HS2.out; have := HS4.out; have := HS7.out; omega))
    replace HV : Hid (VO w9 w1.heap.size (.slice pu nu cu) l) := HV.out.fr HF9.out HT9.out (by decide)
    replace HT5 : Hid (w9.heap[w2.heap.size]? = some (.cells #[.int .i64 k, .string s, .int .i64 a, .int .i64 b, .slice pu nu cu, .int .i64 d, .bool c] 28 (0, 0))) := hid (blk_set HT5.out HF9.out (by first | omega | (have := HS2.out; have := HS4.out; have := HS7.out; omega)))
    replace HT6 : Hid (w9.heap[w4.heap.size]? = some (.cells #[.int .i64 1, .string ⟨#[97]⟩, .int .i64 0, .int .i64 0, .slice none 0 0, .int .i64 0, .bool true] 28 (0, 0))) := hid (blk_set HT6.out HF9.out (by first | omega | (have := HS2.out; have := HS4.out; have := HS7.out; omega)))
    replace HT9 : Hid (w9.heap[w7.heap.size]? = some (.cells #[.int .i64 4, .string s, .int .i64 a, .int .i64 b, .slice pu nu cu, .int .i64 d, .bool c] 28 (0, 0))) := HU9.out
    clear HU9 HF9
    have x0 : w9.cell? ⟨w4.heap.size, 0, none⟩ = some (.int .i64 1) := by rw [cell_of_blk HT6.out]; rfl
    have x1 : w9.cell? ⟨w4.heap.size, 1, none⟩ = some (.string ⟨#[97]⟩) := by rw [cell_of_blk HT6.out]; rfl
    have x2 : w9.cell? ⟨w4.heap.size, 2, none⟩ = some (.int .i64 0) := by rw [cell_of_blk HT6.out]; rfl
    have x3 : w9.cell? ⟨w4.heap.size, 3, none⟩ = some (.int .i64 0) := by rw [cell_of_blk HT6.out]; rfl
    have x4 : w9.cell? ⟨w4.heap.size, 4, none⟩ = some (.slice none 0 0) := by rw [cell_of_blk HT6.out]; rfl
    have x5 : w9.cell? ⟨w4.heap.size, 5, none⟩ = some (.int .i64 0) := by rw [cell_of_blk HT6.out]; rfl
    have x6 : w9.cell? ⟨w4.heap.size, 6, none⟩ = some (.bool true) := by rw [cell_of_blk HT6.out]; rfl
    go_wp2_with fail
    refine (HC9.out _ (VO.nil _ 0).va).mono ?_
    rintro e w10 ⟨rfl, hb⟩
    clear x0 x1 x2 x3 x4 x5 x6
    have HBh10 := hid hb
    clear hb
    replace HT1 : Hid (w10.heap[w.heap.size]? = some (.cells #[.int .i64 ki, .int .i64 ty, .int .i64 lo, .int .i64 n, .int .i64 de, .string tx, .bool co] 23 (0, 0))) := (HBh10.out.block _ (blk_lt HT1.out)).trans HT1.out
    replace HB : Hid (Below w.heap.size w w10) := below_trans HB.out HBh10.out HB.out.size
    replace HV : Hid (VO w10 w1.heap.size (.slice pu nu cu) l) := HV.out.kept (fun i _ hi => HBh10.out.block i hi)
    replace HT5 : Hid (w10.heap[w2.heap.size]? = some (.cells #[.int .i64 k, .string s, .int .i64 a, .int .i64 b, .slice pu nu cu, .int .i64 d, .bool c] 28 (0, 0))) := (HBh10.out.block _ (blk_lt HT5.out)).trans HT5.out
    replace HT6 : Hid (w10.heap[w4.heap.size]? = some (.cells #[.int .i64 1, .string ⟨#[97]⟩, .int .i64 0, .int .i64 0, .slice none 0 0, .int .i64 0, .bool true] 28 (0, 0))) := (HBh10.out.block _ (blk_lt HT6.out)).trans HT6.out
    replace HT9 : Hid (w10.heap[w7.heap.size]? = some (.cells #[.int .i64 4, .string s, .int .i64 a, .int .i64 b, .slice pu nu cu, .int .i64 d, .bool c] 28 (0, 0))) := (HBh10.out.block _ (blk_lt HT9.out)).trans HT9.out
    have x0 : w10.cell? ⟨w7.heap.size, 0, none⟩ = some (.int .i64 4) := by rw [cell_of_blk HT9.out]; rfl
    have x1 : w10.cell? ⟨w7.heap.size, 1, none⟩ = some (.string s) := by rw [cell_of_blk HT9.out]; rfl
    have x2 : w10.cell? ⟨w7.heap.size, 2, none⟩ = some (.int .i64 a) := by rw [cell_of_blk HT9.out]; rfl
    have x3 : w10.cell? ⟨w7.heap.size, 3, none⟩ = some (.int .i64 b) := by rw [cell_of_blk HT9.out]; rfl
    have x4 : w10.cell? ⟨w7.heap.size, 4, none⟩ = some (.slice pu nu cu) := by rw [cell_of_blk HT9.out]; rfl
    have x5 : w10.cell? ⟨w7.heap.size, 5, none⟩ = some (.int .i64 d) := by rw [cell_of_blk HT9.out]; rfl
    have x6 : w10.cell? ⟨w7.heap.size, 6, none⟩ = some (.bool c) := by rw [cell_of_blk HT9.out]; rfl
    go_wp2_with fail
    refine (HCY.out _ _ HV.out.va).mono ?_
    rintro e w11 ⟨rfl, hb⟩
    clear x0 x1 x2 x3 x4 x5 x6
    have HBh11 := hid hb
    clear hb
    replace HT1 : Hid (w11.heap[w.heap.size]? = some (.cells #[.int .i64 ki, .int .i64 ty, .int .i64 lo, .int .i64 n, .int .i64 de, .string tx, .bool co] 23 (0, 0))) := (HBh11.out.block _ (blk_lt HT1.out)).trans HT1.out
    replace HB : Hid (Below w.heap.size w w11) := below_trans HB.out HBh11.out HB.out.size
    replace HV : Hid (VO w11 w1.heap.size (.slice pu nu cu) l) := HV.out.kept (fun i _ hi => HBh11.out.block i hi)
    replace HT5 : Hid (w11.heap[w2.heap.size]? = some (.cells #[.int .i64 k, .string s, .int .i64 a, .int .i64 b, .slice pu nu cu, .int .i64 d, .bool c] 28 (0, 0))) := (HBh11.out.block _ (blk_lt HT5.out)).trans HT5.out
    replace HT6 : Hid (w11.heap[w4.heap.size]? = some (.cells #[.int .i64 1, .string ⟨#[97]⟩, .int .i64 0, .int .i64 0, .slice none 0 0, .int .i64 0, .bool true] 28 (0, 0))) := (HBh11.out.block _ (blk_lt HT6.out)).trans HT6.out
    replace HT9 : Hid (w11.heap[w7.heap.size]? = some (.cells #[.int .i64 4, .string s, .int .i64 a, .int .i64 b, .slice pu nu cu, .int .i64 d, .bool c] 28 (0, 0))) := (HBh11.out.block _ (blk_lt HT9.out)).trans HT9.out
    go_wp2
    go_ret
    exact ⟨ret_bool (by simp), HB.out⟩
end Go.Proofs.Ytepgkemnpcadiac
