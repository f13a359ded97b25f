/-
  An operation of raw numbers may be told; dotterelkeep.operation.
-/
import Derived.Test.YtepgkemnpcadiabOq
import Derived.Test.YtepgkemnpcadiabWc
import Derived.Test.YtepgkemnpcadiabFr
namespace Go.Proofs.Ytepgkemnpcadiab
open Go.ChangeShapes Go.WideShapes Go.ChangeAt Go.RowKit Go.Maps
set_option linter.unusedVariables false
set_option linter.unusedSimpArgs false
set_option maxRecDepth 20000
theorem nchk_tyN (j : Nat) : nchk (tyN j) = 0 := by
  unfold tyN
  split
  · decide
  · split
    · decide
    · split <;> decide
theorem nchk_ty5 (j : Nat) : nchk (ty5 j) = 0 := by
  unfold ty5
  split
  · decide
  · split
    · decide
    · split
      · decide
      · split <;> decide
theorem cutT_size (s : ByteArray) (k : Nat) : (cutT s k).size ≤ k := by
  unfold cutT
  rw [ByteArray.size_extract]
  omega
theorem vchk_int {x : Int} (h : -1125899906842624 ≤ x ∧ x ≤ 1125899906842624) : vchk ⟨1, x, ⟨#[]⟩⟩ = 0 := by
  unfold vchk
  simp only
  rw [if_neg (by omega), if_neg (by rintro (⟨_, h2⟩ | ⟨h2, _⟩) <;> first | omega | exact h2 (by rw [Lib.toList_data])), if_neg (by show ¬ 20 < 0; omega), if_neg (by omega)]
theorem vchk_cut (s : ByteArray) : vchk ⟨2, 0, cutT s 3⟩ = 0 := by
  have := cutT_size s 3
  unfold vchk
  simp only
  rw [if_neg (by omega), if_neg (by rintro (⟨h2, _⟩ | ⟨_, h2⟩); omega; exact h2 rfl), if_neg (by omega), if_neg (by omega)]
theorem vat_all {l : List Vl} (h : ∀ v ∈ l, vchk v = 0) : fst (vat l) l.length = 0 := fst_all fun k hk => by
  unfold vat
  rw [List.getElem?_eq_getElem hk]
  exact h _ (List.getElem_mem hk)
theorem ochk_ev {s : ByteArray} {a b : Int} {l : List Vl} (hs : nchk s = 0) (h0 : 0 ≤ a) (h1 : a ≤ b) (h2 : b ≤ 1099511627776) (hl : l.length ≤ 4) (hv : ∀ v ∈ l, vchk v = 0) : ochk ⟨1, s, a, b, l, 0, false⟩ = 0 := by
  have hb : brk ⟨1, s, a, b, l, 0, false⟩ = 0 := by unfold brk S.bare; simp
  rw [ochk_1 hb rfl]
  have hsc : schk a b = 0 := by
    unfold schk
    repeat (first | rfl | (rw [if_neg (by omega)]) | (rw [if_pos (by omega)]))
  have he : evk a b l = 0 := by
    unfold evk
    rw [if_neg (by rw [hsc]; simp), if_neg (by omega), vat_all hv]
  simp only
  rw [if_neg (by rw [he]; simp), hs]
theorem ochk_adv {x : Int} (c : Bool) (h0 : 0 ≤ x) (h1 : x ≤ 1099511627776) : ochk (advO x c) = 0 := by
  have hb : brk (advO x c) = 0 := by unfold brk S.bare advO; simp
  rw [ochk_2 hb rfl]
  unfold tmk advO
  simp only
  rw [if_pos ⟨h0, h1⟩]
theorem ochk_qry (j : Nat) : ochk (qryO j) = 0 := by
  have hb : brk (qryO j) = 0 := by unfold brk S.bare qryO; simp
  rw [ochk_3 hb rfl]
  exact nchk_ty5 j
theorem insV_ok (ty n : Int) (tx : ByteArray) : (insV ty n tx).length ≤ 2 ∧ ∀ v ∈ insV ty n tx, vchk v = 0 := by
  have h6 := pk_bd n 6 (by decide)
  have hi : vchk ⟨1, pk n 6, ⟨#[]⟩⟩ = 0 := vchk_int (by omega)
  unfold insV
  split
  · exact ⟨by simp, fun v hv => by simp at hv⟩
  · split
    · refine ⟨by simp, fun v hv => ?_⟩
      simp at hv
      rcases hv with rfl | rfl
      · exact hi
      · exact vchk_cut tx
    · refine ⟨by simp, fun v hv => ?_⟩
      simp at hv
      subst hv
      exact hi
theorem raw_ok (ki ty lo n de : Int) (tx : ByteArray) (co : Bool) : ochk (rawO ki ty lo n de tx co) = 0 := by
  have h7 := pk_bd n 7 (by decide)
  have hd := pk_bd de 7 (by decide)
  have h9 := pk_bd lo 9 (by decide)
  unfold rawO
  split
  · obtain ⟨k1, k2⟩ := insV_ok ty n tx
    refine ochk_ev (nchk_tyN _) ?_ ?_ (by omega) (by omega) k2
    · unfold insM; split <;> omega
    · unfold insM; split <;> omega
  · split
    · exact ochk_adv co (by omega) (by omega)
    · exact ochk_qry _
set_option maxHeartbeats 8000000 in
theorem opraw_any (ki ty lo n de : Int) (tx : ByteArray) (co : Bool) (hk : wfI ki) (ht : wfI ty) (hl : wfI lo) (hn : wfI n) (hd : wfI de) (hs : tx.size ≤ maxLen) (w : World) :
    Calls Try.prog 28 #[.agg #[.int .i64 ki, .int .i64 ty, .int .i64 lo, .int .i64 n, .int .i64 de, .string tx, .bool co]] w fun e w' => ∃ u, e = .returned (opv (rawO ki ty lo n de tx co) u) ∧ VO w' w.heap.size u (rawO ki ty lo n de tx co).l ∧ Below w.heap.size w w' := by
  have HO := hid (fun W g h => ops2_any ki ty lo n de tx co hk.1 hk.2 ht.1 ht.2 hl.1 hl.2 hn.1 hn.2 hd.1 hd.2 hs W g h)
  obtain ⟨O, hO⟩ : ∃ O, rawO ki ty lo n de tx co = O := ⟨_, rfl⟩
  rw [hO] at HO ⊢
  clear hO hk ht hl hn hd hs
  have HB3 := hid (bxs3 w [.int .i64 ki, .int .i64 ty, .int .i64 lo, .int .i64 n, .int .i64 de, .string tx, .bool co] [.int .i64 0, .string ⟨#[]⟩, .int .i64 0, .int .i64 0, .slice none 0 0, .int .i64 0, .bool false] [.int .i64 3, .int .i64 0, .int .i64 0, .int .i64 0, .int .i64 n, .string ⟨#[]⟩, .bool false, .int .i64 ki, .int .i64 ty, .int .i64 lo, .int .i64 n, .int .i64 de, .string tx, .bool co] 37 44 37)
  obtain ⟨k, s, a, b, l, d, c⟩ := O
  simp only [opC] at HO
  unfold opv
  simp only
  go_enter Try.func28, Try.ntmps28
  go_wp2_with fail
  refine (HO.out _ (w.heap.size + 2) (HB3.out.b 2 (by simp))).mono ?_
  rintro e w4 ⟨v, u, rfl, hown, hvo, hb⟩
  obtain ⟨pu, nu, cu, hsh⟩ := hvo.shape3
  subst hsh
  obtain ⟨q, cap, hv⟩ : ∃ q cap, v = .slice (some ⟨q, 0, none⟩) 2 cap := by
    rcases hown.2 with ⟨_, h⟩ | ⟨q, cap, _, h, _⟩
    · exact absurd h (by decide)
    · exact ⟨q, cap, h⟩
  subst hv
  have x0 : w4.cell? ⟨q, 7, none⟩ = some (.int .i64 k) := hown.cellAt 7 (by decide)
  have x1 : w4.cell? ⟨q, 8, none⟩ = some (.string s) := hown.cellAt 8 (by decide)
  have x2 : w4.cell? ⟨q, 9, none⟩ = some (.int .i64 a) := hown.cellAt 9 (by decide)
  have x3 : w4.cell? ⟨q, 10, none⟩ = some (.int .i64 b) := hown.cellAt 10 (by decide)
  have x4 : w4.cell? ⟨q, 11, none⟩ = some (.slice pu nu cu) := hown.cellAt 11 (by decide)
  have x5 : w4.cell? ⟨q, 12, none⟩ = some (.int .i64 d) := hown.cellAt 12 (by decide)
  have x6 : w4.cell? ⟨q, 13, none⟩ = some (.bool c) := hown.cellAt 13 (by decide)
  have HB4 : Hid (Below w.heap.size w w4) := below_trans HB3.out.bel hb (by have := HB3.out.bel.size; omega)
  have HR : Hid (w4.heap[w.heap.size + 1]? = some (.cells #[.int .i64 0, .string ⟨#[]⟩, .int .i64 0, .int .i64 0, .slice none 0 0, .int .i64 0, .bool false] 44 (0, 0))) := (hb.block _ (blk_lt (HB3.out.b 1 (by simp)))).trans (HB3.out.b 1 (by simp))
  have HV4 : Hid (VO w4 w.heap.size (.slice pu nu cu) l) := hvo.weak HB3.out.bel.size
  have HNE : Hid (q ≠ w.heap.size + 1) := by
    rcases hown.2 with ⟨h, _⟩ | ⟨q', cap', _, h, h2, _⟩
    · exact absurd h (by simp)
    · simp at h
      obtain ⟨rfl, _⟩ := h
      have := blk_lt (HB3.out.b 2 (by simp))
      simp at this h2
      intro c9
      omega
  clear hown hvo hb HB3
  go_wp2_with ((with_reducible show wpList _ _ _ (Oper.mk _ (.store 44 _ _) _ _ _ _ :: _) _ _); refine wp_st (by rfl) 44 _ _ (by rfl) (w.heap.size + 1) 0 [.int .i64 0, .string ⟨#[]⟩, .int .i64 0, .int .i64 0, .slice none 0 0, .int .i64 0, .bool false] 44 (.agg #[.int .i64 k, .string s, .int .i64 a, .int .i64 b, .slice pu nu cu, .int .i64 d, .bool c]) [.int .i64 k, .string s, .int .i64 a, .int .i64 b, .slice pu nu cu, .int .i64 d, .bool c] (by rfl) (by rfl) (by rfl) HR.out (by simp) (by kernel_rfl) (by rfl) ?_; intro w5 hq1 hq2; have HU5 := hid hq1; have HF5 := hid hq2; clear hq1 hq2)
  exact ret_loc (w.heap.size + 1) [.int .i64 k, .string s, .int .i64 a, .int .i64 b, .slice pu nu cu, .int .i64 d, .bool c] 44 _ HU5.out rfl rfl (by rfl) Try.underlying44 rfl (by kernel_rfl) ⟨_, rfl, HV4.out.fr HF5.out HR.out (by decide), below_fr HB4.out HF5.out (by omega)⟩
end Go.Proofs.Ytepgkemnpcadiab
