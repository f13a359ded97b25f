/-
  An act of raw things: dotterelkeep.note.
-/
import Derived.Test.YtepgkemnpcadiaaOr
import Derived.Test.YtepgkemnpcadiaaTn
import Derived.Test.YtepgkemnpcadiaaDd
namespace Go.Proofs.Ytepgkemnpcadiaa
open Go.ChangeShapes Go.WideShapes Go.ChangeAt Go.RowKit Go.Maps
set_option linter.unusedVariables false
set_option linter.unusedSimpArgs false
set_option maxRecDepth 20000
/-- Raw things. -/
structure Rw where
  ki : Int
  ty : Int
  lo : Int
  n : Int
  de : Int
  tx : ByteArray
  co : Bool
def Rw.ok (d : Rw) : Prop := wfI d.ki ∧ wfI d.ty ∧ wfI d.lo ∧ wfI d.n ∧ wfI d.de ∧ d.tx.size ≤ maxLen
def rwC (d : Rw) : List Value := [.int .i64 d.ki, .int .i64 d.ty, .int .i64 d.lo, .int .i64 d.n, .int .i64 d.de, .string d.tx, .bool d.co]
def rwv (d : Rw) : Value := .agg #[.int .i64 d.ki, .int .i64 d.ty, .int .i64 d.lo, .int .i64 d.n, .int .i64 d.de, .string d.tx, .bool d.co]
def rawOf (d : Rw) : Opn := rawO d.ki d.ty d.lo d.n d.de d.tx d.co
/-- The act that note makes. -/
def noteA (d : Rw) : Ac := if pk d.lo 8 = 7 then ⟨4, zop, 0, cutT d.tx 200⟩ else ⟨1, rawOf d, 0, ⟨#[]⟩⟩
theorem note_ok (d : Rw) : ach (noteA d) = 0 := by
  unfold noteA
  split
  · rw [ach_4 (by unfold emp zop; simp [Lib.toList_data])]
    have := cutT_size d.tx 200
    rw [if_neg (by omega)]
  · rw [ach_1 rfl (by rw [Lib.toList_data])]
    exact raw_ok _ _ _ _ _ _ _
theorem note_swap {d : Rw} (h : pk d.lo 8 = 7) : noteA d = ⟨4, zop, 0, cutT d.tx 200⟩ := if_pos h
theorem note_do {d : Rw} (h : ¬ pk d.lo 8 = 7) : noteA d = ⟨1, rawOf d, 0, ⟨#[]⟩⟩ := if_neg h
set_option maxHeartbeats 8000000 in
theorem note_any (D : Rw) (h : D.ok) (w : World) :
    Calls Try.prog 40 #[rwv D] w fun e w' => ∃ u, e = .returned (acv (noteA D) u) ∧ VO w' w.heap.size u (noteA D).o.l ∧ Below w.heap.size w w' := by
  have HP := hid (fun W => picked_any D.lo 8 W h.2.2.1.1 h.2.2.1.2 (by decide) (by decide))
  have HC := hid (fun W => cut_any D.tx 200 (by decide) h.2.2.2.2.2 W)
  have HO : Hid (∀ W, Calls Try.prog 61 #[rwv D] W fun e w' => ∃ u, e = .returned (opv (rawOf D) u) ∧ VO w' W.heap.size u (rawOf D).l ∧ Below W.heap.size W w') := fun W => opraw_any D.ki D.ty D.lo D.n D.de D.tx D.co h.1 h.2.1 h.2.2.1 h.2.2.2.1 h.2.2.2.2.1 h.2.2.2.2.2 W
  have HN1 := hid (@note_swap D)
  have HN2 := hid (@note_do D)
  obtain ⟨A, hA⟩ : ∃ A, noteA D = A := ⟨_, rfl⟩
  rw [hA] at HN1 HN2 ⊢
  obtain ⟨O, hO⟩ : ∃ O, rawOf D = O := ⟨_, rfl⟩
  rw [hO] at HN2 HO
  obtain ⟨tc, htc⟩ : ∃ tc, cutT D.tx 200 = tc := ⟨_, rfl⟩
  rw [htc] at HN1 HC
  obtain ⟨j, hj⟩ : ∃ j, pk D.lo 8 = j := ⟨_, rfl⟩
  rw [hj] at HN1 HN2 HP
  clear h hA hO htc hj
  obtain ⟨ki, ty, lo, n, de, tx, co⟩ := D
  obtain ⟨k, s, a, b, l, d, c⟩ := O
  unfold rwv at HO ⊢
  unfold opv at HO
  simp only at HP HC HO ⊢
  have HB2 := hid (bxs2 w [.int .i64 ki, .int .i64 ty, .int .i64 lo, .int .i64 n, .int .i64 de, .string tx, .bool co] [.int .i64 0, .int .i64 0, .string ⟨#[]⟩, .int .i64 0, .int .i64 0, .slice none 0 0, .int .i64 0, .bool false, .int .i64 0, .string ⟨#[]⟩] 70 28)
  by_cases h7 : j = 7
  · have hA := HN1.out h7
    subst hA h7
    unfold acv zop
    simp only
    go_enter Try.func40, Try.ntmps40
    go_upto_region 1 with fail
    generalize (w.alloc (.cells #[.int .i64 ki, .int .i64 ty, .int .i64 lo, .int .i64 n, .int .i64 de, .string tx, .bool co] 70)).alloc (.cells #[.int .i64 0, .int .i64 0, .string ⟨#[]⟩, .int .i64 0, .int .i64 0, .slice none 0 0, .int .i64 0, .bool false, .int .i64 0, .string ⟨#[]⟩] 28) = WB at HB2 ⊢
    have HT1 : Hid (WB.heap[w.heap.size]? = some (.cells #[.int .i64 ki, .int .i64 ty, .int .i64 lo, .int .i64 n, .int .i64 de, .string tx, .bool co] 70 (0, 0))) := HB2.out.b 0 (by simp)
    have HT2 : Hid (WB.heap[w.heap.size + 1]? = some (.cells #[.int .i64 0, .int .i64 0, .string ⟨#[]⟩, .int .i64 0, .int .i64 0, .slice none 0 0, .int .i64 0, .bool false, .int .i64 0, .string ⟨#[]⟩] 28 (0, 0))) := HB2.out.b 1 (by simp)
    have HB : Hid (Below w.heap.size w WB) := HB2.out.bel
    clear HB2
    have x0 : WB.cell? ⟨w.heap.size, 0, none⟩ = some (.int .i64 ki) := by rw [cell_of_blk HT1.out]; rfl
    have x1 : WB.cell? ⟨w.heap.size, 1, none⟩ = some (.int .i64 ty) := by rw [cell_of_blk HT1.out]; rfl
    have x2 : WB.cell? ⟨w.heap.size, 2, none⟩ = some (.int .i64 lo) := by rw [cell_of_blk HT1.out]; rfl
    have x3 : WB.cell? ⟨w.heap.size, 3, none⟩ = some (.int .i64 n) := by rw [cell_of_blk HT1.out]; rfl
    have x4 : WB.cell? ⟨w.heap.size, 4, none⟩ = some (.int .i64 de) := by rw [cell_of_blk HT1.out]; rfl
    have x5 : WB.cell? ⟨w.heap.size, 5, none⟩ = some (.string tx) := by rw [cell_of_blk HT1.out]; rfl
    have x6 : WB.cell? ⟨w.heap.size, 6, none⟩ = some (.bool co) := by rw [cell_of_blk HT1.out]; rfl
    go_wp2_with fail
    refine (HP.out _).mono ?_
    rintro e WB ⟨rfl, rfl⟩
    go_wp2_with fail
    refine (HC.out _).mono ?_
    rintro e w3 ⟨rfl, hb⟩
    clear x0 x1 x2 x3 x4 x5 x6
    have HBh := hid hb
    clear hb
    replace HT1 : Hid (w3.heap[w.heap.size]? = some (.cells #[.int .i64 ki, .int .i64 ty, .int .i64 lo, .int .i64 n, .int .i64 de, .string tx, .bool co] 70 (0, 0))) := (HBh.out.block _ (blk_lt HT1.out)).trans HT1.out
    replace HT2 : Hid (w3.heap[w.heap.size + 1]? = some (.cells #[.int .i64 0, .int .i64 0, .string ⟨#[]⟩, .int .i64 0, .int .i64 0, .slice none 0 0, .int .i64 0, .bool false, .int .i64 0, .string ⟨#[]⟩] 28 (0, 0))) := (HBh.out.block _ (blk_lt HT2.out)).trans HT2.out
    replace HB : Hid (Below w.heap.size w w3) := below_trans HB.out HBh.out HB.out.size
    go_wp2_with ((with_reducible show wpList _ _ _ (Oper.mk _ (.store 28 _ _) _ _ _ _ :: _) _ _); refine wp_st (by rfl) 28 _ _ (by rfl) (w.heap.size + 1) 0 [.int .i64 0, .int .i64 0, .string ⟨#[]⟩, .int .i64 0, .int .i64 0, .slice none 0 0, .int .i64 0, .bool false, .int .i64 0, .string ⟨#[]⟩] 28 (.agg #[.int .i64 4, .int .i64 0, .string ⟨#[]⟩, .int .i64 0, .int .i64 0, .slice none 0 0, .int .i64 0, .bool false, .int .i64 0, .string tc]) [.int .i64 4, .int .i64 0, .string ⟨#[]⟩, .int .i64 0, .int .i64 0, .slice none 0 0, .int .i64 0, .bool false, .int .i64 0, .string tc] (by rfl) (by rfl) (by rfl) HT2.out (by simp) (by kernel_rfl) (by rfl) ?_; intro w5 hq1 hq2; have HU5 := hid hq1; have HF5 := hid hq2; clear hq1 hq2)
    exact ret_loc (w.heap.size + 1) [.int .i64 4, .int .i64 0, .string ⟨#[]⟩, .int .i64 0, .int .i64 0, .slice none 0 0, .int .i64 0, .bool false, .int .i64 0, .string tc] 28 _ HU5.out rfl rfl (by rfl) Try.underlying28 rfl (by kernel_rfl) ⟨.slice none 0 0, rfl, VO.nil _ _, below_fr HB.out HF5.out (by omega)⟩
  · have hA := HN2.out h7
    subst hA
    have hjb : (j == 7) = false := by simpa using h7
    unfold acv
    simp only
    clear h7
    go_enter Try.func40, Try.ntmps40
    go_upto_region 1 with fail
    generalize (w.alloc (.cells #[.int .i64 ki, .int .i64 ty, .int .i64 lo, .int .i64 n, .int .i64 de, .string tx, .bool co] 70)).alloc (.cells #[.int .i64 0, .int .i64 0, .string ⟨#[]⟩, .int .i64 0, .int .i64 0, .slice none 0 0, .int .i64 0, .bool false, .int .i64 0, .string ⟨#[]⟩] 28) = WB at HB2 ⊢
    have HT1 : Hid (WB.heap[w.heap.size]? = some (.cells #[.int .i64 ki, .int .i64 ty, .int .i64 lo, .int .i64 n, .int .i64 de, .string tx, .bool co] 70 (0, 0))) := HB2.out.b 0 (by simp)
    have HT2 : Hid (WB.heap[w.heap.size + 1]? = some (.cells #[.int .i64 0, .int .i64 0, .string ⟨#[]⟩, .int .i64 0, .int .i64 0, .slice none 0 0, .int .i64 0, .bool false, .int .i64 0, .string ⟨#[]⟩] 28 (0, 0))) := HB2.out.b 1 (by simp)
    have HB : Hid (Below w.heap.size w WB) := HB2.out.bel
    clear HB2
    have x0 : WB.cell? ⟨w.heap.size, 0, none⟩ = some (.int .i64 ki) := by rw [cell_of_blk HT1.out]; rfl
    have x1 : WB.cell? ⟨w.heap.size, 1, none⟩ = some (.int .i64 ty) := by rw [cell_of_blk HT1.out]; rfl
    have x2 : WB.cell? ⟨w.heap.size, 2, none⟩ = some (.int .i64 lo) := by rw [cell_of_blk HT1.out]; rfl
    have x3 : WB.cell? ⟨w.heap.size, 3, none⟩ = some (.int .i64 n) := by rw [cell_of_blk HT1.out]; rfl
    have x4 : WB.cell? ⟨w.heap.size, 4, none⟩ = some (.int .i64 de) := by rw [cell_of_blk HT1.out]; rfl
    have x5 : WB.cell? ⟨w.heap.size, 5, none⟩ = some (.string tx) := by rw [cell_of_blk HT1.out]; rfl
    have x6 : WB.cell? ⟨w.heap.size, 6, none⟩ = some (.bool co) := by rw [cell_of_blk HT1.out]; rfl
    go_wp2_with fail
    refine (HP.out _).mono ?_
    rintro e WB ⟨rfl, rfl⟩
    go_wp2_with fail
    refine (HO.out _).mono ?_
    rintro e w3 ⟨u, rfl, ho, hb⟩
    clear x0 x1 x2 x3 x4 x5 x6
    obtain ⟨pu, nu, cu, hsh⟩ := ho.shape3
    subst hsh
    have HO3 := hid ho
    have HBh := hid hb
    have HLT : Hid (w.heap.size + 1 < WB.heap.size) := blk_lt HT2.out
    clear ho hb
    replace HT1 : Hid (w3.heap[w.heap.size]? = some (.cells #[.int .i64 ki, .int .i64 ty, .int .i64 lo, .int .i64 n, .int .i64 de, .string tx, .bool co] 70 (0, 0))) := (HBh.out.block _ (blk_lt HT1.out)).trans HT1.out
    replace HT2 : Hid (w3.heap[w.heap.size + 1]? = some (.cells #[.int .i64 0, .int .i64 0, .string ⟨#[]⟩, .int .i64 0, .int .i64 0, .slice none 0 0, .int .i64 0, .bool false, .int .i64 0, .string ⟨#[]⟩] 28 (0, 0))) := (HBh.out.block _ (blk_lt HT2.out)).trans HT2.out
    replace HB : Hid (Below w.heap.size w w3) := below_trans HB.out HBh.out HB.out.size
    go_wp2_with ((with_reducible show wpList _ _ _ (Oper.mk _ (.store 28 _ _) _ _ _ _ :: _) _ _); refine wp_st (by rfl) 28 _ _ (by rfl) (w.heap.size + 1) 0 [.int .i64 0, .int .i64 0, .string ⟨#[]⟩, .int .i64 0, .int .i64 0, .slice none 0 0, .int .i64 0, .bool false, .int .i64 0, .string ⟨#[]⟩] 28 (.agg #[.int .i64 1, .int .i64 k, .string s, .int .i64 a, .int .i64 b, .slice pu nu cu, .int .i64 d, .bool c, .int .i64 0, .string ⟨#[]⟩]) [.int .i64 1, .int .i64 k, .string s, .int .i64 a, .int .i64 b, .slice pu nu cu, .int .i64 d, .bool c, .int .i64 0, .string ⟨#[]⟩] (by rfl) (by rfl) (by rfl) HT2.out (by simp) (by kernel_rfl) (by rfl) ?_; intro w5 hq1 hq2; have HU5 := hid hq1; have HF5 := hid hq2; clear hq1 hq2)
    exact ret_loc (w.heap.size + 1) [.int .i64 1, .int .i64 k, .string s, .int .i64 a, .int .i64 b, .slice pu nu cu, .int .i64 d, .bool c, .int .i64 0, .string ⟨#[]⟩] 28 _ HU5.out rfl rfl (by rfl) Try.underlying28 rfl (by kernel_rfl) ⟨.slice pu nu cu, rfl, (VO.fr HO3.out HF5.out HT2.out (by decide)).weak (by have := HLT.out; omega), below_fr HB.out HF5.out (by omega)⟩
end Go.Proofs.Ytepgkemnpcadiaa
