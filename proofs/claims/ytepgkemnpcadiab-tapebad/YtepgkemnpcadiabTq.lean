/-
  What is neither done nor swapped is not on a tape: TapeBad.
-/
import Derived.Test.YtepgkemnpcadiabNo
import Derived.Test.YtepgkemnpcadiabTi
namespace Go.Proofs.Ytepgkemnpcadiab
open Go.ChangeShapes Go.WideShapes Go.ChangeAt Go.RowKit Go.Maps
set_option linter.unusedVariables false
set_option linter.unusedSimpArgs false
set_option maxRecDepth 20000
theorem note_pick {d : Rw} {k : Int} {o : Opn} {p : Int} {s : ByteArray} (h : noteA d = ⟨k, o, p, s⟩) : ach ⟨k, o, 1, s⟩ = 4 := by
  unfold noteA at h
  split at h
  · cases h
    exact ach_4b (Or.inl (by decide))
  · cases h
    exact ach_1b (Or.inl (by decide))
theorem tap_bad {a : Ac} {z : Int} (h : ach a = z) (hz : z ≠ 0) : tap [] 0 a = ([], 0, z) := by
  unfold tap
  rw [if_pos (by decide), if_pos (by rw [h]; exact hz), h]
set_option maxHeartbeats 16000000 in
theorem tapeBad_walk (D : Rw) (h : D.ok) (x : Int) (hx : wfI x) (w : World) :
    Calls Try.prog 6 #[rwv D, .int .i64 x] w fun e w' => e = .returned (.bool true) ∧ Below w.heap.size w w' := by
  have HN := hid (fun W => note_any D h W)
  have HOK := hid (note_ok D)
  have HPK : Hid (∀ k o p s, noteA D = ⟨k, o, p, s⟩ → ach ⟨k, o, 1, s⟩ = 4) := fun k o p s h => note_pick h
  have HPX := hid (fun W => picked_any x 3 W hx.1 hx.2 (by decide) (by decide))
  have hp3 := pk_bd x 3 (by decide)
  obtain ⟨j, hj⟩ : ∃ j, pk x 3 = j := ⟨_, rfl⟩
  rw [hj] at HPX hp3
  have HJ := hid hp3
  obtain ⟨A, hA⟩ : ∃ A, noteA D = A := ⟨_, rfl⟩
  rw [hA] at HN HOK HPK
  obtain ⟨ak, O, ap, ay⟩ := A
  have HP4 := hid (HPK.out _ _ _ _ rfl)
  have HCK := hid (fun W u (h : ValsAt W u O.l) => tcheck_any ⟨ak, O, ap, ay⟩ u W h)
  rw [HOK.out] at HCK
  clear h hx hp3 hj hA HPK
  obtain ⟨ki, ty, lo, n, de, tx, co⟩ := D
  obtain ⟨ok, os, oa, ob, ol, od, oc⟩ := O
  unfold rwv at HN ⊢
  unfold acv at HN HCK
  simp only at HN HCK ⊢
  go_enter Try.func6, Try.ntmps6
  go_upto_region 1 with fail
  have HT1 : Hid ((w.alloc (.cells #[.int .i64 ki, .int .i64 ty, .int .i64 lo, .int .i64 n, .int .i64 de, .string tx, .bool co] 37)).heap[w.heap.size]? = some (.cells #[.int .i64 ki, .int .i64 ty, .int .i64 lo, .int .i64 n, .int .i64 de, .string tx, .bool co] 37 (0, 0))) := heap_alloc_new _ _
  have HB : Hid (Below w.heap.size w (w.alloc (.cells #[.int .i64 ki, .int .i64 ty, .int .i64 lo, .int .i64 n, .int .i64 de, .string tx, .bool co] 37))) := (Below.refl _ w).alloc (Nat.le_refl _) _
  generalize w.alloc (.cells #[.int .i64 ki, .int .i64 ty, .int .i64 lo, .int .i64 n, .int .i64 de, .string tx, .bool co] 37) = w1 at HT1 HB ⊢
  have x0 : w1.cell? ⟨w.heap.size, 0, none⟩ = some (.int .i64 ki) := by rw [cell_of_blk HT1.out]; rfl
  have x1 : w1.cell? ⟨w.heap.size, 1, none⟩ = some (.int .i64 ty) := by rw [cell_of_blk HT1.out]; rfl
  have x2 : w1.cell? ⟨w.heap.size, 2, none⟩ = some (.int .i64 lo) := by rw [cell_of_blk HT1.out]; rfl
  have x3 : w1.cell? ⟨w.heap.size, 3, none⟩ = some (.int .i64 n) := by rw [cell_of_blk HT1.out]; rfl
  have x4 : w1.cell? ⟨w.heap.size, 4, none⟩ = some (.int .i64 de) := by rw [cell_of_blk HT1.out]; rfl
  have x5 : w1.cell? ⟨w.heap.size, 5, none⟩ = some (.string tx) := by rw [cell_of_blk HT1.out]; rfl
  have x6 : w1.cell? ⟨w.heap.size, 6, none⟩ = some (.bool co) := by rw [cell_of_blk HT1.out]; rfl
  go_wp2_with fail
  refine (HN.out _).mono ?_
  rintro e w2 ⟨u, rfl, hvo, hb⟩
  clear x0 x1 x2 x3 x4 x5 x6
  obtain ⟨pu, nu, cu, hsh⟩ := hvo.shape3
  subst hsh
  have HVO2 := hid hvo
  have HBh := hid hb
  clear hvo hb
  replace HT1 : Hid (w2.heap[w.heap.size]? = some (.cells #[.int .i64 ki, .int .i64 ty, .int .i64 lo, .int .i64 n, .int .i64 de, .string tx, .bool co] 37 (0, 0))) := (HBh.out.block _ (blk_lt HT1.out)).trans HT1.out
  replace HB : Hid (Below w.heap.size w w2) := below_trans HB.out HBh.out HB.out.size
  have HV : Hid (VO w2 w1.heap.size (.slice pu nu cu) ol) := HVO2.out
  have HS2 : Hid (w.heap.size < w2.heap.size) := blk_lt HT1.out
  go_upto_region 2 with ((with_reducible show wpList _ _ _ (Oper.mk _ (.store 46 _ _) _ _ _ _ :: _) _ _); refine wp_st (by rfl) 46 _ _ (by rfl) w2.heap.size 0 [.int .i64 0, .int .i64 0, .string ⟨#[]⟩, .int .i64 0, .int .i64 0, .slice none 0 0, .int .i64 0, .bool false, .int .i64 0, .string ⟨#[]⟩] 46 (.agg #[.int .i64 ak, .int .i64 ok, .string os, .int .i64 oa, .int .i64 ob, .slice pu nu cu, .int .i64 od, .bool oc, .int .i64 ap, .string ay]) [.int .i64 ak, .int .i64 ok, .string os, .int .i64 oa, .int .i64 ob, .slice pu nu cu, .int .i64 od, .bool oc, .int .i64 ap, .string ay] (by rfl) (by rfl) (by rfl) (heap_alloc_new _ _) (by simp) (by kernel_rfl) (by rfl) ?_; intro w3 hq1 hq2; have HU3 := hid hq1; have HF3 := hid hq2; clear hq1 hq2)
  have HBn3 : Hid (Below w2.heap.size w2 w3) := below_fr ((Below.refl _ _).alloc (Nat.le_refl _) _) HF3.out (Nat.le_refl _)
  replace HT1 : Hid (w3.heap[w.heap.size]? = some (.cells #[.int .i64 ki, .int .i64 ty, .int .i64 lo, .int .i64 n, .int .i64 de, .string tx, .bool co] 37 (0, 0))) := (HBn3.out.block _ (blk_lt HT1.out)).trans HT1.out
  replace HB : Hid (Below w.heap.size w w3) := below_trans HB.out HBn3.out HB.out.size
  replace HV : Hid (VO w3 w1.heap.size (.slice pu nu cu) ol) := VO.kept HV.out (fun i _ hi => HBn3.out.block i hi)
  have HT5 : Hid (w3.heap[w2.heap.size]? = some (.cells #[.int .i64 ak, .int .i64 ok, .string os, .int .i64 oa, .int .i64 ob, .slice pu nu cu, .int .i64 od, .bool oc, .int .i64 ap, .string ay] 46 (0, 0))) := HU3.out
  clear HU3 HF3
  have x0 : w3.cell? ⟨w2.heap.size, 0, none⟩ = some (.int .i64 ak) := by rw [cell_of_blk HT5.out]; rfl
  have x1 : w3.cell? ⟨w2.heap.size, 1, none⟩ = some (.int .i64 ok) := by rw [cell_of_blk HT5.out]; rfl
  have x2 : w3.cell? ⟨w2.heap.size, 2, none⟩ = some (.string os) := by rw [cell_of_blk HT5.out]; rfl
  have x3 : w3.cell? ⟨w2.heap.size, 3, none⟩ = some (.int .i64 oa) := by rw [cell_of_blk HT5.out]; rfl
  have x4 : w3.cell? ⟨w2.heap.size, 4, none⟩ = some (.int .i64 ob) := by rw [cell_of_blk HT5.out]; rfl
  have x5 : w3.cell? ⟨w2.heap.size, 5, none⟩ = some (.slice pu nu cu) := by rw [cell_of_blk HT5.out]; rfl
  have x6 : w3.cell? ⟨w2.heap.size, 6, none⟩ = some (.int .i64 od) := by rw [cell_of_blk HT5.out]; rfl
  have x7 : w3.cell? ⟨w2.heap.size, 7, none⟩ = some (.bool oc) := by rw [cell_of_blk HT5.out]; rfl
  have x8 : w3.cell? ⟨w2.heap.size, 8, none⟩ = some (.int .i64 ap) := by rw [cell_of_blk HT5.out]; rfl
  have x9 : w3.cell? ⟨w2.heap.size, 9, none⟩ = some (.string ay) := by rw [cell_of_blk HT5.out]; rfl
  go_wp2_with fail
  refine (HCK.out _ _ (VO.va HV.out)).mono ?_
  rintro e w4 ⟨rfl, hb⟩
  clear x0 x1 x2 x3 x4 x5 x6 x7 x8 x9
  have HBh4 := hid hb
  clear hb
  replace HT1 : Hid (w4.heap[w.heap.size]? = some (.cells #[.int .i64 ki, .int .i64 ty, .int .i64 lo, .int .i64 n, .int .i64 de, .string tx, .bool co] 37 (0, 0))) := (HBh4.out.block _ (blk_lt HT1.out)).trans HT1.out
  replace HB : Hid (Below w.heap.size w w4) := below_trans HB.out HBh4.out HB.out.size
  replace HV : Hid (VO w4 w1.heap.size (.slice pu nu cu) ol) := VO.kept HV.out (fun i _ hi => HBh4.out.block i hi)
  replace HT5 : Hid (w4.heap[w2.heap.size]? = some (.cells #[.int .i64 ak, .int .i64 ok, .string os, .int .i64 oa, .int .i64 ob, .slice pu nu cu, .int .i64 od, .bool oc, .int .i64 ap, .string ay] 46 (0, 0))) := (HBh4.out.block _ (blk_lt HT5.out)).trans HT5.out
  go_wp2_with fail
  refine (HPX.out _).mono ?_
  rintro e w4 ⟨rfl, rfl⟩
  rcases (by have := HJ.out; omega : j = 0 ∨ j = 1 ∨ j = 2) with rfl | rfl | rfl
  · have HZ : Hid (ach ⟨2, zop, 0, ⟨#[]⟩⟩ = 3) := ach_x (by decide) (by decide)
    go_upto_region 12 with ((with_reducible show wpList _ _ _ (Oper.mk _ (.store 46 _ _) _ _ _ _ :: _) _ _); refine wp_st (by rfl) 46 _ _ (by rfl) (w2.heap.size) 0 [.int .i64 ak, .int .i64 ok, .string os, .int .i64 oa, .int .i64 ob, .slice pu nu cu, .int .i64 od, .bool oc, .int .i64 ap, .string ay] 46 (.agg #[.int .i64 2, .int .i64 0, .string ⟨#[]⟩, .int .i64 0, .int .i64 0, .slice none 0 0, .int .i64 0, .bool false, .int .i64 0, .string ⟨#[]⟩]) [.int .i64 2, .int .i64 0, .string ⟨#[]⟩, .int .i64 0, .int .i64 0, .slice none 0 0, .int .i64 0, .bool false, .int .i64 0, .string ⟨#[]⟩] (by rfl) (by rfl) (by rfl) HT5.out (by simp) (by kernel_rfl) (by rfl) ?_; intro w6 hq1 hq2; have HU6 := hid hq1; have HF6 := hid hq2; clear hq1 hq2)
    replace HT1 : Hid (w6.heap[w.heap.size]? = some (.cells #[.int .i64 ki, .int .i64 ty, .int .i64 lo, .int .i64 n, .int .i64 de, .string tx, .bool co] 37 (0, 0))) := hid (blk_set HT1.out HF6.out (by first | omega | (have := HS2.out; omega)))
    replace HB : Hid (Below w.heap.size w w6) := below_fr HB.out HF6.out (by first | omega | (have := HS2.out; omega))
    replace HV : Hid (VO w6 w1.heap.size (.slice pu nu cu) ol) := VO.fr HV.out HF6.out HT5.out (by decide)
    replace HT5 : Hid (w6.heap[w2.heap.size]? = some (.cells #[.int .i64 2, .int .i64 0, .string ⟨#[]⟩, .int .i64 0, .int .i64 0, .slice none 0 0, .int .i64 0, .bool false, .int .i64 0, .string ⟨#[]⟩] 46 (0, 0))) := HU6.out
    clear HU6 HF6
    have HAP := hid (fun W (h : ValsAt W (.slice none 0 0) (⟨2, zop, 0, ⟨#[]⟩⟩ : Ac).o.l) => tapp_any [] (.slice none 0 0) 0 ⟨2, zop, 0, ⟨#[]⟩⟩ (.slice none 0 0) W (BO.nil W 0).ba h)
    rw [tap_bad HZ.out (by decide)] at HAP
    have HCX := hid (fun W (h : ValsAt W (.slice none 0 0) (⟨2, zop, 0, ⟨#[]⟩⟩ : Ac).o.l) => tcheck_any ⟨2, zop, 0, ⟨#[]⟩⟩ (.slice none 0 0) W h)
    rw [HZ.out] at HCX
    unfold tpv acv at HAP
    unfold acv at HCX
    unfold zop at HAP HCX
    simp only at HAP HCX
    have x0 : w6.cell? ⟨w2.heap.size, 0, none⟩ = some (.int .i64 2) := by rw [cell_of_blk HT5.out]; rfl
    have x1 : w6.cell? ⟨w2.heap.size, 1, none⟩ = some (.int .i64 0) := by rw [cell_of_blk HT5.out]; rfl
    have x2 : w6.cell? ⟨w2.heap.size, 2, none⟩ = some (.string ⟨#[]⟩) := by rw [cell_of_blk HT5.out]; rfl
    have x3 : w6.cell? ⟨w2.heap.size, 3, none⟩ = some (.int .i64 0) := by rw [cell_of_blk HT5.out]; rfl
    have x4 : w6.cell? ⟨w2.heap.size, 4, none⟩ = some (.int .i64 0) := by rw [cell_of_blk HT5.out]; rfl
    have x5 : w6.cell? ⟨w2.heap.size, 5, none⟩ = some (.slice none 0 0) := by rw [cell_of_blk HT5.out]; rfl
    have x6 : w6.cell? ⟨w2.heap.size, 6, none⟩ = some (.int .i64 0) := by rw [cell_of_blk HT5.out]; rfl
    have x7 : w6.cell? ⟨w2.heap.size, 7, none⟩ = some (.bool false) := by rw [cell_of_blk HT5.out]; rfl
    have x8 : w6.cell? ⟨w2.heap.size, 8, none⟩ = some (.int .i64 0) := by rw [cell_of_blk HT5.out]; rfl
    have x9 : w6.cell? ⟨w2.heap.size, 9, none⟩ = some (.string ⟨#[]⟩) := by rw [cell_of_blk HT5.out]; rfl
    go_wp2_with fail
    refine (HAP.out _ (VO.nil _ 0).va).mono ?_
    rintro e w7 ⟨v7, rfl, ho, hb⟩
    clear x0 x1 x2 x3 x4 x5 x6 x7 x8 x9
    obtain ⟨p7, n7, c7, hsh⟩ := ho.shape3
    subst hsh
    have HBh7 := hid hb
    clear ho hb
    replace HT1 : Hid (w7.heap[w.heap.size]? = some (.cells #[.int .i64 ki, .int .i64 ty, .int .i64 lo, .int .i64 n, .int .i64 de, .string tx, .bool co] 37 (0, 0))) := (HBh7.out.block _ (blk_lt HT1.out)).trans HT1.out
    replace HB : Hid (Below w.heap.size w w7) := below_trans HB.out HBh7.out HB.out.size
    replace HV : Hid (VO w7 w1.heap.size (.slice pu nu cu) ol) := VO.kept HV.out (fun i _ hi => HBh7.out.block i hi)
    replace HT5 : Hid (w7.heap[w2.heap.size]? = some (.cells #[.int .i64 2, .int .i64 0, .string ⟨#[]⟩, .int .i64 0, .int .i64 0, .slice none 0 0, .int .i64 0, .bool false, .int .i64 0, .string ⟨#[]⟩] 46 (0, 0))) := (HBh7.out.block _ (blk_lt HT5.out)).trans HT5.out
    go_upto_region 13 with ((with_reducible show wpList _ _ _ (Oper.mk _ (.store 27 _ _) _ _ _ _ :: _) _ _); refine wp_st (by rfl) 27 _ _ (by rfl) w7.heap.size 0 [.slice none 0 0, .int .i64 0] 27 (.agg #[.slice p7 n7 c7, .int .i64 0]) [.slice p7 n7 c7, .int .i64 0] (by rfl) (by rfl) (by rfl) (heap_alloc_new _ _) (by simp) (by kernel_rfl) (by rfl) ?_; intro w8 hq1 hq2; have HU8 := hid hq1; have HF8 := hid hq2; clear hq1 hq2)
    have HBn8 : Hid (Below w7.heap.size w7 w8) := below_fr ((Below.refl _ _).alloc (Nat.le_refl _) _) HF8.out (Nat.le_refl _)
    replace HT1 : Hid (w8.heap[w.heap.size]? = some (.cells #[.int .i64 ki, .int .i64 ty, .int .i64 lo, .int .i64 n, .int .i64 de, .string tx, .bool co] 37 (0, 0))) := (HBn8.out.block _ (blk_lt HT1.out)).trans HT1.out
    replace HB : Hid (Below w.heap.size w w8) := below_trans HB.out HBn8.out HB.out.size
    replace HV : Hid (VO w8 w1.heap.size (.slice pu nu cu) ol) := VO.kept HV.out (fun i _ hi => HBn8.out.block i hi)
    replace HT5 : Hid (w8.heap[w2.heap.size]? = some (.cells #[.int .i64 2, .int .i64 0, .string ⟨#[]⟩, .int .i64 0, .int .i64 0, .slice none 0 0, .int .i64 0, .bool false, .int .i64 0, .string ⟨#[]⟩] 46 (0, 0))) := (HBn8.out.block _ (blk_lt HT5.out)).trans HT5.out
    have HT7 : Hid (w8.heap[w7.heap.size]? = some (.cells #[.slice p7 n7 c7, .int .i64 0] 27 (0, 0))) := HU8.out
    clear HU8 HF8
    have x0 : w8.cell? ⟨w2.heap.size, 0, none⟩ = some (.int .i64 2) := by rw [cell_of_blk HT5.out]; rfl
    have x1 : w8.cell? ⟨w2.heap.size, 1, none⟩ = some (.int .i64 0) := by rw [cell_of_blk HT5.out]; rfl
    have x2 : w8.cell? ⟨w2.heap.size, 2, none⟩ = some (.string ⟨#[]⟩) := by rw [cell_of_blk HT5.out]; rfl
    have x3 : w8.cell? ⟨w2.heap.size, 3, none⟩ = some (.int .i64 0) := by rw [cell_of_blk HT5.out]; rfl
    have x4 : w8.cell? ⟨w2.heap.size, 4, none⟩ = some (.int .i64 0) := by rw [cell_of_blk HT5.out]; rfl
    have x5 : w8.cell? ⟨w2.heap.size, 5, none⟩ = some (.slice none 0 0) := by rw [cell_of_blk HT5.out]; rfl
    have x6 : w8.cell? ⟨w2.heap.size, 6, none⟩ = some (.int .i64 0) := by rw [cell_of_blk HT5.out]; rfl
    have x7 : w8.cell? ⟨w2.heap.size, 7, none⟩ = some (.bool false) := by rw [cell_of_blk HT5.out]; rfl
    have x8 : w8.cell? ⟨w2.heap.size, 8, none⟩ = some (.int .i64 0) := by rw [cell_of_blk HT5.out]; rfl
    have x9 : w8.cell? ⟨w2.heap.size, 9, none⟩ = some (.string ⟨#[]⟩) := by rw [cell_of_blk HT5.out]; rfl
    go_wp2_with fail
    refine (HCX.out _ (VO.nil _ 0).va).mono ?_
    rintro e w9 ⟨rfl, hb⟩
    clear x0 x1 x2 x3 x4 x5 x6 x7 x8 x9
    have HBh9 := hid hb
    clear hb
    replace HT1 : Hid (w9.heap[w.heap.size]? = some (.cells #[.int .i64 ki, .int .i64 ty, .int .i64 lo, .int .i64 n, .int .i64 de, .string tx, .bool co] 37 (0, 0))) := (HBh9.out.block _ (blk_lt HT1.out)).trans HT1.out
    replace HB : Hid (Below w.heap.size w w9) := below_trans HB.out HBh9.out HB.out.size
    replace HV : Hid (VO w9 w1.heap.size (.slice pu nu cu) ol) := VO.kept HV.out (fun i _ hi => HBh9.out.block i hi)
    replace HT5 : Hid (w9.heap[w2.heap.size]? = some (.cells #[.int .i64 2, .int .i64 0, .string ⟨#[]⟩, .int .i64 0, .int .i64 0, .slice none 0 0, .int .i64 0, .bool false, .int .i64 0, .string ⟨#[]⟩] 46 (0, 0))) := (HBh9.out.block _ (blk_lt HT5.out)).trans HT5.out
    replace HT7 : Hid (w9.heap[w7.heap.size]? = some (.cells #[.slice p7 n7 c7, .int .i64 0] 27 (0, 0))) := (HBh9.out.block _ (blk_lt HT7.out)).trans HT7.out
    go_wp2
    go_ret
    exact ⟨ret_bool (by simp), HB.out⟩
  · have HZ : Hid (ach ⟨3, zop, 0, ⟨#[]⟩⟩ = 3) := ach_x (by decide) (by decide)
    go_upto_region 12 with ((with_reducible show wpList _ _ _ (Oper.mk _ (.store 46 _ _) _ _ _ _ :: _) _ _); refine wp_st (by rfl) 46 _ _ (by rfl) (w2.heap.size) 0 [.int .i64 ak, .int .i64 ok, .string os, .int .i64 oa, .int .i64 ob, .slice pu nu cu, .int .i64 od, .bool oc, .int .i64 ap, .string ay] 46 (.agg #[.int .i64 3, .int .i64 0, .string ⟨#[]⟩, .int .i64 0, .int .i64 0, .slice none 0 0, .int .i64 0, .bool false, .int .i64 0, .string ⟨#[]⟩]) [.int .i64 3, .int .i64 0, .string ⟨#[]⟩, .int .i64 0, .int .i64 0, .slice none 0 0, .int .i64 0, .bool false, .int .i64 0, .string ⟨#[]⟩] (by rfl) (by rfl) (by rfl) HT5.out (by simp) (by kernel_rfl) (by rfl) ?_; intro w6 hq1 hq2; have HU6 := hid hq1; have HF6 := hid hq2; clear hq1 hq2)
    replace HT1 : Hid (w6.heap[w.heap.size]? = some (.cells #[.int .i64 ki, .int .i64 ty, .int .i64 lo, .int .i64 n, .int .i64 de, .string tx, .bool co] 37 (0, 0))) := hid (blk_set HT1.out HF6.out (by first | omega | (have := HS2.out; omega)))
    replace HB : Hid (Below w.heap.size w w6) := below_fr HB.out HF6.out (by first | omega | (have := HS2.out; omega))
    replace HV : Hid (VO w6 w1.heap.size (.slice pu nu cu) ol) := VO.fr HV.out HF6.out HT5.out (by decide)
    replace HT5 : Hid (w6.heap[w2.heap.size]? = some (.cells #[.int .i64 3, .int .i64 0, .string ⟨#[]⟩, .int .i64 0, .int .i64 0, .slice none 0 0, .int .i64 0, .bool false, .int .i64 0, .string ⟨#[]⟩] 46 (0, 0))) := HU6.out
    clear HU6 HF6
    have HAP := hid (fun W (h : ValsAt W (.slice none 0 0) (⟨3, zop, 0, ⟨#[]⟩⟩ : Ac).o.l) => tapp_any [] (.slice none 0 0) 0 ⟨3, zop, 0, ⟨#[]⟩⟩ (.slice none 0 0) W (BO.nil W 0).ba h)
    rw [tap_bad HZ.out (by decide)] at HAP
    have HCX := hid (fun W (h : ValsAt W (.slice none 0 0) (⟨3, zop, 0, ⟨#[]⟩⟩ : Ac).o.l) => tcheck_any ⟨3, zop, 0, ⟨#[]⟩⟩ (.slice none 0 0) W h)
    rw [HZ.out] at HCX
    unfold tpv acv at HAP
    unfold acv at HCX
    unfold zop at HAP HCX
    simp only at HAP HCX
    have x0 : w6.cell? ⟨w2.heap.size, 0, none⟩ = some (.int .i64 3) := by rw [cell_of_blk HT5.out]; rfl
    have x1 : w6.cell? ⟨w2.heap.size, 1, none⟩ = some (.int .i64 0) := by rw [cell_of_blk HT5.out]; rfl
    have x2 : w6.cell? ⟨w2.heap.size, 2, none⟩ = some (.string ⟨#[]⟩) := by rw [cell_of_blk HT5.out]; rfl
    have x3 : w6.cell? ⟨w2.heap.size, 3, none⟩ = some (.int .i64 0) := by rw [cell_of_blk HT5.out]; rfl
    have x4 : w6.cell? ⟨w2.heap.size, 4, none⟩ = some (.int .i64 0) := by rw [cell_of_blk HT5.out]; rfl
    have x5 : w6.cell? ⟨w2.heap.size, 5, none⟩ = some (.slice none 0 0) := by rw [cell_of_blk HT5.out]; rfl
    have x6 : w6.cell? ⟨w2.heap.size, 6, none⟩ = some (.int .i64 0) := by rw [cell_of_blk HT5.out]; rfl
    have x7 : w6.cell? ⟨w2.heap.size, 7, none⟩ = some (.bool false) := by rw [cell_of_blk HT5.out]; rfl
    have x8 : w6.cell? ⟨w2.heap.size, 8, none⟩ = some (.int .i64 0) := by rw [cell_of_blk HT5.out]; rfl
    have x9 : w6.cell? ⟨w2.heap.size, 9, none⟩ = some (.string ⟨#[]⟩) := by rw [cell_of_blk HT5.out]; rfl
    go_wp2_with fail
    refine (HAP.out _ (VO.nil _ 0).va).mono ?_
    rintro e w7 ⟨v7, rfl, ho, hb⟩
    clear x0 x1 x2 x3 x4 x5 x6 x7 x8 x9
    obtain ⟨p7, n7, c7, hsh⟩ := ho.shape3
    subst hsh
    have HBh7 := hid hb
    clear ho hb
    replace HT1 : Hid (w7.heap[w.heap.size]? = some (.cells #[.int .i64 ki, .int .i64 ty, .int .i64 lo, .int .i64 n, .int .i64 de, .string tx, .bool co] 37 (0, 0))) := (HBh7.out.block _ (blk_lt HT1.out)).trans HT1.out
    replace HB : Hid (Below w.heap.size w w7) := below_trans HB.out HBh7.out HB.out.size
    replace HV : Hid (VO w7 w1.heap.size (.slice pu nu cu) ol) := VO.kept HV.out (fun i _ hi => HBh7.out.block i hi)
    replace HT5 : Hid (w7.heap[w2.heap.size]? = some (.cells #[.int .i64 3, .int .i64 0, .string ⟨#[]⟩, .int .i64 0, .int .i64 0, .slice none 0 0, .int .i64 0, .bool false, .int .i64 0, .string ⟨#[]⟩] 46 (0, 0))) := (HBh7.out.block _ (blk_lt HT5.out)).trans HT5.out
    go_upto_region 13 with ((with_reducible show wpList _ _ _ (Oper.mk _ (.store 27 _ _) _ _ _ _ :: _) _ _); refine wp_st (by rfl) 27 _ _ (by rfl) w7.heap.size 0 [.slice none 0 0, .int .i64 0] 27 (.agg #[.slice p7 n7 c7, .int .i64 0]) [.slice p7 n7 c7, .int .i64 0] (by rfl) (by rfl) (by rfl) (heap_alloc_new _ _) (by simp) (by kernel_rfl) (by rfl) ?_; intro w8 hq1 hq2; have HU8 := hid hq1; have HF8 := hid hq2; clear hq1 hq2)
    have HBn8 : Hid (Below w7.heap.size w7 w8) := below_fr ((Below.refl _ _).alloc (Nat.le_refl _) _) HF8.out (Nat.le_refl _)
    replace HT1 : Hid (w8.heap[w.heap.size]? = some (.cells #[.int .i64 ki, .int .i64 ty, .int .i64 lo, .int .i64 n, .int .i64 de, .string tx, .bool co] 37 (0, 0))) := (HBn8.out.block _ (blk_lt HT1.out)).trans HT1.out
    replace HB : Hid (Below w.heap.size w w8) := below_trans HB.out HBn8.out HB.out.size
    replace HV : Hid (VO w8 w1.heap.size (.slice pu nu cu) ol) := VO.kept HV.out (fun i _ hi => HBn8.out.block i hi)
    replace HT5 : Hid (w8.heap[w2.heap.size]? = some (.cells #[.int .i64 3, .int .i64 0, .string ⟨#[]⟩, .int .i64 0, .int .i64 0, .slice none 0 0, .int .i64 0, .bool false, .int .i64 0, .string ⟨#[]⟩] 46 (0, 0))) := (HBn8.out.block _ (blk_lt HT5.out)).trans HT5.out
    have HT7 : Hid (w8.heap[w7.heap.size]? = some (.cells #[.slice p7 n7 c7, .int .i64 0] 27 (0, 0))) := HU8.out
    clear HU8 HF8
    have x0 : w8.cell? ⟨w2.heap.size, 0, none⟩ = some (.int .i64 3) := by rw [cell_of_blk HT5.out]; rfl
    have x1 : w8.cell? ⟨w2.heap.size, 1, none⟩ = some (.int .i64 0) := by rw [cell_of_blk HT5.out]; rfl
    have x2 : w8.cell? ⟨w2.heap.size, 2, none⟩ = some (.string ⟨#[]⟩) := by rw [cell_of_blk HT5.out]; rfl
    have x3 : w8.cell? ⟨w2.heap.size, 3, none⟩ = some (.int .i64 0) := by rw [cell_of_blk HT5.out]; rfl
    have x4 : w8.cell? ⟨w2.heap.size, 4, none⟩ = some (.int .i64 0) := by rw [cell_of_blk HT5.out]; rfl
    have x5 : w8.cell? ⟨w2.heap.size, 5, none⟩ = some (.slice none 0 0) := by rw [cell_of_blk HT5.out]; rfl
    have x6 : w8.cell? ⟨w2.heap.size, 6, none⟩ = some (.int .i64 0) := by rw [cell_of_blk HT5.out]; rfl
    have x7 : w8.cell? ⟨w2.heap.size, 7, none⟩ = some (.bool false) := by rw [cell_of_blk HT5.out]; rfl
    have x8 : w8.cell? ⟨w2.heap.size, 8, none⟩ = some (.int .i64 0) := by rw [cell_of_blk HT5.out]; rfl
    have x9 : w8.cell? ⟨w2.heap.size, 9, none⟩ = some (.string ⟨#[]⟩) := by rw [cell_of_blk HT5.out]; rfl
    go_wp2_with fail
    refine (HCX.out _ (VO.nil _ 0).va).mono ?_
    rintro e w9 ⟨rfl, hb⟩
    clear x0 x1 x2 x3 x4 x5 x6 x7 x8 x9
    have HBh9 := hid hb
    clear hb
    replace HT1 : Hid (w9.heap[w.heap.size]? = some (.cells #[.int .i64 ki, .int .i64 ty, .int .i64 lo, .int .i64 n, .int .i64 de, .string tx, .bool co] 37 (0, 0))) := (HBh9.out.block _ (blk_lt HT1.out)).trans HT1.out
    replace HB : Hid (Below w.heap.size w w9) := below_trans HB.out HBh9.out HB.out.size
    replace HV : Hid (VO w9 w1.heap.size (.slice pu nu cu) ol) := VO.kept HV.out (fun i _ hi => HBh9.out.block i hi)
    replace HT5 : Hid (w9.heap[w2.heap.size]? = some (.cells #[.int .i64 3, .int .i64 0, .string ⟨#[]⟩, .int .i64 0, .int .i64 0, .slice none 0 0, .int .i64 0, .bool false, .int .i64 0, .string ⟨#[]⟩] 46 (0, 0))) := (HBh9.out.block _ (blk_lt HT5.out)).trans HT5.out
    replace HT7 : Hid (w9.heap[w7.heap.size]? = some (.cells #[.slice p7 n7 c7, .int .i64 0] 27 (0, 0))) := (HBh9.out.block _ (blk_lt HT7.out)).trans HT7.out
    go_wp2
    go_ret
    exact ⟨ret_bool (by simp), HB.out⟩
  · have HZ := HP4
    go_upto_region 12 with ((with_reducible show wpList _ _ _ (Oper.mk _ (.store 3 _ _) _ _ _ _ :: _) _ _); refine wp_st (by rfl) 3 _ _ (by rfl) (w2.heap.size) 8 [.int .i64 ak, .int .i64 ok, .string os, .int .i64 oa, .int .i64 ob, .slice pu nu cu, .int .i64 od, .bool oc, .int .i64 ap, .string ay] 46 (.int .i64 1) [.int .i64 1] (by rfl) (by rfl) (by rfl) HT5.out (by simp) (by kernel_rfl) (by rfl) ?_; intro w6 hq1 hq2; have HU6 := hid hq1; have HF6 := hid hq2; clear hq1 hq2)
    replace HT1 : Hid (w6.heap[w.heap.size]? = some (.cells #[.int .i64 ki, .int .i64 ty, .int .i64 lo, .int .i64 n, .int .i64 de, .string tx, .bool co] 37 (0, 0))) := hid (blk_set HT1.out HF6.out (by first | omega | (have := HS2.out; omega)))
    replace HB : Hid (Below w.heap.size w w6) := below_fr HB.out HF6.out (by first | omega | (have := HS2.out; omega))
    replace HV : Hid (VO w6 w1.heap.size (.slice pu nu cu) ol) := VO.fr HV.out HF6.out HT5.out (by decide)
    replace HT5 : Hid (w6.heap[w2.heap.size]? = some (.cells #[.int .i64 ak, .int .i64 ok, .string os, .int .i64 oa, .int .i64 ob, .slice pu nu cu, .int .i64 od, .bool oc, .int .i64 1, .string ay] 46 (0, 0))) := HU6.out
    clear HU6 HF6
    have HAP := hid (fun W (h : ValsAt W (.slice pu nu cu) (⟨ak, ⟨ok, os, oa, ob, ol, od, oc⟩, 1, ay⟩ : Ac).o.l) => tapp_any [] (.slice none 0 0) 0 ⟨ak, ⟨ok, os, oa, ob, ol, od, oc⟩, 1, ay⟩ (.slice pu nu cu) W (BO.nil W 0).ba h)
    rw [tap_bad HZ.out (by decide)] at HAP
    have HCX := hid (fun W (h : ValsAt W (.slice pu nu cu) (⟨ak, ⟨ok, os, oa, ob, ol, od, oc⟩, 1, ay⟩ : Ac).o.l) => tcheck_any ⟨ak, ⟨ok, os, oa, ob, ol, od, oc⟩, 1, ay⟩ (.slice pu nu cu) W h)
    rw [HZ.out] at HCX
    unfold tpv acv at HAP
    unfold acv at HCX
    simp only at HAP HCX
    have x0 : w6.cell? ⟨w2.heap.size, 0, none⟩ = some (.int .i64 ak) := by rw [cell_of_blk HT5.out]; rfl
    have x1 : w6.cell? ⟨w2.heap.size, 1, none⟩ = some (.int .i64 ok) := by rw [cell_of_blk HT5.out]; rfl
    have x2 : w6.cell? ⟨w2.heap.size, 2, none⟩ = some (.string os) := by rw [cell_of_blk HT5.out]; rfl
    have x3 : w6.cell? ⟨w2.heap.size, 3, none⟩ = some (.int .i64 oa) := by rw [cell_of_blk HT5.out]; rfl
    have x4 : w6.cell? ⟨w2.heap.size, 4, none⟩ = some (.int .i64 ob) := by rw [cell_of_blk HT5.out]; rfl
    have x5 : w6.cell? ⟨w2.heap.size, 5, none⟩ = some (.slice pu nu cu) := by rw [cell_of_blk HT5.out]; rfl
    have x6 : w6.cell? ⟨w2.heap.size, 6, none⟩ = some (.int .i64 od) := by rw [cell_of_blk HT5.out]; rfl
    have x7 : w6.cell? ⟨w2.heap.size, 7, none⟩ = some (.bool oc) := by rw [cell_of_blk HT5.out]; rfl
    have x8 : w6.cell? ⟨w2.heap.size, 8, none⟩ = some (.int .i64 1) := by rw [cell_of_blk HT5.out]; rfl
    have x9 : w6.cell? ⟨w2.heap.size, 9, none⟩ = some (.string ay) := by rw [cell_of_blk HT5.out]; rfl
    go_wp2_with fail
    refine (HAP.out _ (VO.va HV.out)).mono ?_
    rintro e w7 ⟨v7, rfl, ho, hb⟩
    clear x0 x1 x2 x3 x4 x5 x6 x7 x8 x9
    obtain ⟨p7, n7, c7, hsh⟩ := ho.shape3
    subst hsh
    have HBh7 := hid hb
    clear ho hb
    replace HT1 : Hid (w7.heap[w.heap.size]? = some (.cells #[.int .i64 ki, .int .i64 ty, .int .i64 lo, .int .i64 n, .int .i64 de, .string tx, .bool co] 37 (0, 0))) := (HBh7.out.block _ (blk_lt HT1.out)).trans HT1.out
    replace HB : Hid (Below w.heap.size w w7) := below_trans HB.out HBh7.out HB.out.size
    replace HV : Hid (VO w7 w1.heap.size (.slice pu nu cu) ol) := VO.kept HV.out (fun i _ hi => HBh7.out.block i hi)
    replace HT5 : Hid (w7.heap[w2.heap.size]? = some (.cells #[.int .i64 ak, .int .i64 ok, .string os, .int .i64 oa, .int .i64 ob, .slice pu nu cu, .int .i64 od, .bool oc, .int .i64 1, .string ay] 46 (0, 0))) := (HBh7.out.block _ (blk_lt HT5.out)).trans HT5.out
    go_upto_region 13 with ((with_reducible show wpList _ _ _ (Oper.mk _ (.store 27 _ _) _ _ _ _ :: _) _ _); refine wp_st (by rfl) 27 _ _ (by rfl) w7.heap.size 0 [.slice none 0 0, .int .i64 0] 27 (.agg #[.slice p7 n7 c7, .int .i64 0]) [.slice p7 n7 c7, .int .i64 0] (by rfl) (by rfl) (by rfl) (heap_alloc_new _ _) (by simp) (by kernel_rfl) (by rfl) ?_; intro w8 hq1 hq2; have HU8 := hid hq1; have HF8 := hid hq2; clear hq1 hq2)
    have HBn8 : Hid (Below w7.heap.size w7 w8) := below_fr ((Below.refl _ _).alloc (Nat.le_refl _) _) HF8.out (Nat.le_refl _)
    replace HT1 : Hid (w8.heap[w.heap.size]? = some (.cells #[.int .i64 ki, .int .i64 ty, .int .i64 lo, .int .i64 n, .int .i64 de, .string tx, .bool co] 37 (0, 0))) := (HBn8.out.block _ (blk_lt HT1.out)).trans HT1.out
    replace HB : Hid (Below w.heap.size w w8) := below_trans HB.out HBn8.out HB.out.size
    replace HV : Hid (VO w8 w1.heap.size (.slice pu nu cu) ol) := VO.kept HV.out (fun i _ hi => HBn8.out.block i hi)
    replace HT5 : Hid (w8.heap[w2.heap.size]? = some (.cells #[.int .i64 ak, .int .i64 ok, .string os, .int .i64 oa, .int .i64 ob, .slice pu nu cu, .int .i64 od, .bool oc, .int .i64 1, .string ay] 46 (0, 0))) := (HBn8.out.block _ (blk_lt HT5.out)).trans HT5.out
    have HT7 : Hid (w8.heap[w7.heap.size]? = some (.cells #[.slice p7 n7 c7, .int .i64 0] 27 (0, 0))) := HU8.out
    clear HU8 HF8
    have x0 : w8.cell? ⟨w2.heap.size, 0, none⟩ = some (.int .i64 ak) := by rw [cell_of_blk HT5.out]; rfl
    have x1 : w8.cell? ⟨w2.heap.size, 1, none⟩ = some (.int .i64 ok) := by rw [cell_of_blk HT5.out]; rfl
    have x2 : w8.cell? ⟨w2.heap.size, 2, none⟩ = some (.string os) := by rw [cell_of_blk HT5.out]; rfl
    have x3 : w8.cell? ⟨w2.heap.size, 3, none⟩ = some (.int .i64 oa) := by rw [cell_of_blk HT5.out]; rfl
    have x4 : w8.cell? ⟨w2.heap.size, 4, none⟩ = some (.int .i64 ob) := by rw [cell_of_blk HT5.out]; rfl
    have x5 : w8.cell? ⟨w2.heap.size, 5, none⟩ = some (.slice pu nu cu) := by rw [cell_of_blk HT5.out]; rfl
    have x6 : w8.cell? ⟨w2.heap.size, 6, none⟩ = some (.int .i64 od) := by rw [cell_of_blk HT5.out]; rfl
    have x7 : w8.cell? ⟨w2.heap.size, 7, none⟩ = some (.bool oc) := by rw [cell_of_blk HT5.out]; rfl
    have x8 : w8.cell? ⟨w2.heap.size, 8, none⟩ = some (.int .i64 1) := by rw [cell_of_blk HT5.out]; rfl
    have x9 : w8.cell? ⟨w2.heap.size, 9, none⟩ = some (.string ay) := by rw [cell_of_blk HT5.out]; rfl
    go_wp2_with fail
    refine (HCX.out _ (VO.va HV.out)).mono ?_
    rintro e w9 ⟨rfl, hb⟩
    clear x0 x1 x2 x3 x4 x5 x6 x7 x8 x9
    have HBh9 := hid hb
    clear hb
    replace HT1 : Hid (w9.heap[w.heap.size]? = some (.cells #[.int .i64 ki, .int .i64 ty, .int .i64 lo, .int .i64 n, .int .i64 de, .string tx, .bool co] 37 (0, 0))) := (HBh9.out.block _ (blk_lt HT1.out)).trans HT1.out
    replace HB : Hid (Below w.heap.size w w9) := below_trans HB.out HBh9.out HB.out.size
    replace HV : Hid (VO w9 w1.heap.size (.slice pu nu cu) ol) := VO.kept HV.out (fun i _ hi => HBh9.out.block i hi)
    replace HT5 : Hid (w9.heap[w2.heap.size]? = some (.cells #[.int .i64 ak, .int .i64 ok, .string os, .int .i64 oa, .int .i64 ob, .slice pu nu cu, .int .i64 od, .bool oc, .int .i64 1, .string ay] 46 (0, 0))) := (HBh9.out.block _ (blk_lt HT5.out)).trans HT5.out
    replace HT7 : Hid (w9.heap[w7.heap.size]? = some (.cells #[.slice p7 n7 c7, .int .i64 0] 27 (0, 0))) := (HBh9.out.block _ (blk_lt HT7.out)).trans HT7.out
    go_wp2
    go_ret
    exact ⟨ret_bool (by simp), HB.out⟩
end Go.Proofs.Ytepgkemnpcadiab
