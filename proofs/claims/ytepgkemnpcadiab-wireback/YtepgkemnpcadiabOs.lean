/-
  A great operation of raw numbers: dotterelkeep.big.
-/
import Derived.Test.YtepgkemnpcadiabOr
import Derived.Test.YtepgkemnpcadiabZb
namespace Go.Proofs.Ytepgkemnpcadiab
open Go.ChangeShapes Go.WideShapes Go.ChangeAt Go.RowKit Go.Maps
set_option linter.unusedVariables false
set_option linter.unusedSimpArgs false
set_option maxRecDepth 20000
/-- A copy of values. -/
theorem wp_copyV {ops : Array Oper} {rest : List Oper} {o : Oper} {a : Act} {Q : Exit → Act → World → Prop} (hgd : o.guard = none) (s x : Operand)
    (ho : o.op = .call { callee := .builtin .append, args := #[s, x], argTypes := #[42, 42] }) (W : World) (B g : Nat) (n cap : Nat) (l : List Vl) (hs : a.eval s = .slice none 0 0) (hx : a.eval x = .slice (some ⟨g, 0, none⟩) n cap) (h : VO W B (.slice (some ⟨g, 0, none⟩) n cap) l) (hl : l.length ≤ 1000)
    (k : ∀ v' w', VO w' W.heap.size v' l → Below W.heap.size W w' → wpList Try.prog ops Q rest (a.put o.dst v') w') :
    wpList Try.prog ops Q (o :: rest) a W := by
  obtain ⟨i0, a1, a2, a3, a4⟩ := info_parts infoV
  have hn : n = l.length := by
    obtain ⟨p, c, e, _⟩ := h.va
    simp at e
    exact e.2.1
  unfold VO at h
  refine wpList_append_own_at _ hgd s x 42 ho W.heap.size 73 i0 (.agg #[.int .i64 0, .int .i64 0, .string ByteArray.empty]) 3 32 Try.underlying42 a1 a2 a3 a4 rfl (by omega) (.slice none 0 0) 0 [] hs (World.ownsRow_nil _ _ _ _) ⟨g, 0, none⟩ n cap (l.flatMap encV) hx (by rw [length_flatV, hn]) (h.cells rfl) (by
    intro u hu
    obtain ⟨v, _, hv⟩ := List.mem_flatMap.1 hu
    simp [encV] at hv
    rcases hv with rfl | rfl | rfl <;> rfl) (by unfold maxLen; omega) (by omega) (Nat.le_refl _) ?_
  intro v' w' hown hgrow _ hat
  refine k v' w' (by unfold VO; rw [← hn]; simpa using hown) ((Below.refl _ _).grown hgrow (Nat.le_refl _) (fun k hk => by cases hk))
theorem VO.len {w : World} {B n c : Nat} {p : Option Addr} {l : List Vl} (h : VO w B (.slice p n c) l) : n = l.length := by
  obtain ⟨p', c', e, _⟩ := h.va
  simp at e
  exact e.2.1
theorem raw_cases (ki ty lo n de : Int) (tx : ByteArray) (co : Bool) : (rawO ki ty lo n de tx co).k = 1 ∧ (rawO ki ty lo n de tx co).d = 0 ∧ (rawO ki ty lo n de tx co).c = false ∧ nchk (rawO ki ty lo n de tx co).s = 0 ∧ (rawO ki ty lo n de tx co).l.length ≤ 2 ∧ (∀ v ∈ (rawO ki ty lo n de tx co).l, vchk v = 0) ∧ (∀ v r, (rawO ki ty lo n de tx co).l = v :: r → v.k = 1 ∧ v.s = ⟨#[]⟩) ∨ (∃ x, 0 ≤ x ∧ x ≤ 6 ∧ rawO ki ty lo n de tx co = advO x co) ∨ ∃ j, rawO ki ty lo n de tx co = qryO j := by
  have hd := pk_bd de 7 (by decide)
  unfold rawO
  by_cases h1 : pk ki 6 < 3
  · left
    rw [if_pos h1]
    obtain ⟨k1, k2⟩ := insV_ok ty n tx
    refine ⟨rfl, rfl, rfl, nchk_tyN _, k1, k2, fun v r h => ?_⟩
    have h : insV ty n tx = v :: r := h
    unfold insV at h
    split at h
    · cases h
    · split at h <;> (cases h; exact ⟨rfl, rfl⟩)
  · by_cases h2 : pk ki 6 < 5
    · right; left
      rw [if_neg h1, if_pos h2]
      exact ⟨_, hd.1, by omega, rfl⟩
    · right; right
      rw [if_neg h1, if_neg h2]
      exact ⟨_, rfl⟩
set_option maxHeartbeats 16000000 in
theorem big_any (ki ty lo nn de : Int) (tx : ByteArray) (co : Bool) (hk : wfI ki) (ht : wfI ty) (hl : wfI lo) (hn : wfI nn) (hd : wfI de) (hs : tx.size ≤ maxLen) (n m : Int) (hn1 : wfI n) (hm1 : wfI m) : BigC ki ty lo nn de tx co n m := by
  intro w
  have HO := hid (fun W => opraw_any ki ty lo nn de tx co hk ht hl hn hd hs W)
  have HPM := hid (fun W => picked_any m 1099511627776 W hm1.1 hm1.2 (by decide) (by decide))
  have HPN := hid (fun W => picked_any n 1099511627777 W hn1.1 hn1.2 (by decide) (by decide))
  have hpm := pk_bd m 1099511627776 (by decide)
  have hpn := pk_bd n 1099511627777 (by decide)
  have hrc := raw_cases ki ty lo nn de tx co
  have hok := raw_ok ki ty lo nn de tx co
  obtain ⟨O, hO⟩ : ∃ O, rawO ki ty lo nn de tx co = O := ⟨_, rfl⟩
  rw [hO] at HO hrc hok
  clear hO hk ht hl hn hd hs
  obtain ⟨M, hM⟩ : ∃ z, pk m 1099511627776 = z := ⟨_, rfl⟩
  obtain ⟨N2, hN⟩ : ∃ z, pk n 1099511627777 = z := ⟨_, rfl⟩
  rw [hM] at HPM hpm
  rw [hN] at HPN hpn
  have HM := hid hpm
  have HN2 := hid hpn
  clear hM hN hpm hpn
  have HB2 := hid (bxs2 w [.int .i64 ki, .int .i64 ty, .int .i64 lo, .int .i64 nn, .int .i64 de, .string tx, .bool co] [.int .i64 0, .string ⟨#[]⟩, .int .i64 0, .int .i64 0, .slice none 0 0, .int .i64 0, .bool false] 37 44)
  have HRC := hid hrc
  have HOK := hid hok
  clear hrc hok
  obtain ⟨k, s, a, b, l, d, c⟩ := O
  unfold opv at HO
  simp only at HO
  unfold ddV
  go_enter Try.func19, Try.ntmps19
  go_wp2_with fail
  refine (HO.out _).mono ?_
  rintro e w4 ⟨u, rfl, hvo, hb⟩
  obtain ⟨pu, nu, cu, hsh⟩ := hvo.shape3
  subst hsh
  have HB4 : Hid (Below w.heap.size w w4) := below_trans HB2.out.bel hb (by have := HB2.out.bel.size; omega)
  have HR4 : Hid (w4.heap[w.heap.size + 1]? = some (.cells #[.int .i64 0, .string ⟨#[]⟩, .int .i64 0, .int .i64 0, .slice none 0 0, .int .i64 0, .bool false] 44 (0, 0))) := (hb.block _ (blk_lt (HB2.out.b 1 (by simp)))).trans (HB2.out.b 1 (by simp))
  have HV4 : Hid (VO w4 (w.heap.size + 2) (.slice pu nu cu) l) := hvo.weak (by have := blk_lt (HB2.out.b 1 (by simp)); simp at this ⊢)
  clear hvo hb HB2
  go_upto_region 2 with ((with_reducible show wpList _ _ _ (Oper.mk _ (.store 44 _ _) _ _ _ _ :: _) _ _); refine wp_st (by rfl) 44 _ _ (by rfl) w4.heap.size 0 [.int .i64 0, .string ⟨#[]⟩, .int .i64 0, .int .i64 0, .slice none 0 0, .int .i64 0, .bool false] 44 (.agg #[.int .i64 k, .string s, .int .i64 a, .int .i64 b, .slice pu nu cu, .int .i64 d, .bool c]) [.int .i64 k, .string s, .int .i64 a, .int .i64 b, .slice pu nu cu, .int .i64 d, .bool c] (by rfl) (by rfl) (by rfl) (heap_alloc_new _ _) (by simp) (by kernel_rfl) (by rfl) ?_; intro w5 hq1 hq2; have HU5 := hid hq1; have HF5 := hid hq2; clear hq1 hq2; have d0 : w5.cell? ⟨w4.heap.size, 0, none⟩ = some (.int .i64 k) := (by rw [cell_of_blk HU5.out]; rfl))
  have HB5 : Hid (Below w.heap.size w w5) := below_fr (HB4.out.alloc HB4.out.size _) HF5.out HB4.out.size
  have HB4L : Hid (w.heap.size + 1 < w4.heap.size) := blk_lt HR4.out
  have HR5 : Hid (w5.heap[w.heap.size + 1]? = some (.cells #[.int .i64 0, .string ⟨#[]⟩, .int .i64 0, .int .i64 0, .slice none 0 0, .int .i64 0, .bool false] 44 (0, 0))) := hid (blk_set (by rw [Below.heap_alloc _ _ _ HB4L.out]; exact HR4.out) HF5.out (by have := HB4L.out; omega))
  have HV5 : Hid (VO w5 (w.heap.size + 2) (.slice pu nu cu) l) := HV4.out.kept (fun i hi hl => (HF5.out.block i (by simp; omega) (by omega)).trans (Below.heap_alloc _ _ _ hl))
  have HLN := hid (VO.len HV5.out)
  rcases HRC.out with ⟨hk1, hdd, hcc, hns, hlen, hvv, hfst⟩ | ⟨x, hx0, hx1, hx⟩ | ⟨j, hx⟩
  · have hk1 : k = 1 := hk1
    have hdd : d = 0 := hdd
    have hcc : c = false := hcc
    have hns : nchk s = 0 := hns
    have hlen : l.length ≤ 2 := hlen
    have hvv : ∀ v ∈ l, vchk v = 0 := hvv
    have hfst : ∀ v r, l = v :: r → v.k = 1 ∧ v.s = ⟨#[]⟩ := hfst
    subst hk1 hdd hcc
    have HFS := hid (And.intro hns (And.intro hlen (And.intro hvv hfst)))
    clear hns hlen hvv hfst
    go_wp2_with fail
    refine (HPM.out _).mono ?_
    rintro e w5 ⟨rfl, rfl⟩
    by_cases hn0 : nu = 0
    · subst hn0
      go_upto_region 10 with ((with_reducible show wpList _ _ _ (Oper.mk _ (.store 41 _ _) _ _ _ _ :: _) _ _); refine wp_st (by rfl) 41 _ _ (by rfl) w4.heap.size 2 [.int .i64 1, .string s, .int .i64 a, .int .i64 b, .slice pu 0 cu, .int .i64 0, .bool false] 44 (.agg #[.int .i64 M, .int .i64 1099511627776]) [.int .i64 M, .int .i64 1099511627776] (by rfl) (by rfl) (by rfl) HU5.out (by simp) (by kernel_rfl) (by rfl) ?_; intro w6 hq1 hq2; have HU6 := hid hq1; have HF6 := hid hq2; clear hq1 hq2; have x0 : w6.cell? ⟨w4.heap.size, 0, none⟩ = some (.int .i64 1) := (by rw [cell_of_blk HU6.out]; rfl); have x1 : w6.cell? ⟨w4.heap.size, 1, none⟩ = some (.string s) := (by rw [cell_of_blk HU6.out]; rfl); have x2 : w6.cell? ⟨w4.heap.size, 2, none⟩ = some (.int .i64 M) := (by rw [cell_of_blk HU6.out]; rfl); have x3 : w6.cell? ⟨w4.heap.size, 3, none⟩ = some (.int .i64 1099511627776) := (by rw [cell_of_blk HU6.out]; rfl); have x4 : w6.cell? ⟨w4.heap.size, 4, none⟩ = some (.slice pu 0 cu) := (by rw [cell_of_blk HU6.out]; rfl); have x5 : w6.cell? ⟨w4.heap.size, 5, none⟩ = some (.int .i64 0) := (by rw [cell_of_blk HU6.out]; rfl); have x6 : w6.cell? ⟨w4.heap.size, 6, none⟩ = some (.bool false) := (by rw [cell_of_blk HU6.out]; rfl))
      clear d0
      have HU6c : Hid (w6.heap[w4.heap.size]? = some (.cells #[.int .i64 1, .string s, .int .i64 M, .int .i64 1099511627776, .slice pu 0 cu, .int .i64 0, .bool false] 44 (0, 0))) := HU6.out
      have HB6 : Hid (Below w.heap.size w w6) := below_fr HB5.out HF6.out HB4.out.size
      have HR6 : Hid (w6.heap[w.heap.size + 1]? = some (.cells #[.int .i64 0, .string ⟨#[]⟩, .int .i64 0, .int .i64 0, .slice none 0 0, .int .i64 0, .bool false] 44 (0, 0))) := hid (blk_set HR5.out HF6.out (by have := HB4L.out; omega))
      have HV6 : Hid (VO w6 (w.heap.size + 2) (.slice pu 0 cu) l) := HV5.out.fr HF6.out HU5.out (by decide)
      clear HU6 HF6 HF5 HU5 HR5 HB5 HV5 HR4 HV4
      go_wp2_with ((with_reducible show wpList _ _ _ (Oper.mk _ (.store 44 _ _) _ _ _ _ :: _) _ _); refine wp_st (by rfl) 44 _ _ (by rfl) (w.heap.size + 1) 0 [.int .i64 0, .string ⟨#[]⟩, .int .i64 0, .int .i64 0, .slice none 0 0, .int .i64 0, .bool false] 44 (.agg #[.int .i64 1, .string s, .int .i64 M, .int .i64 1099511627776, .slice pu 0 cu, .int .i64 0, .bool false]) [.int .i64 1, .string s, .int .i64 M, .int .i64 1099511627776, .slice pu 0 cu, .int .i64 0, .bool false] (by rfl) (by rfl) (by rfl) HR6.out (by simp) (by kernel_rfl) (by rfl) ?_; intro w9 hq1 hq2; have HU9 := hid hq1; have HF9 := hid hq2; clear hq1 hq2)
      have hq := HFS.out
      have hm := HM.out
      exact ret_loc (w.heap.size + 1) [.int .i64 1, .string s, .int .i64 M, .int .i64 1099511627776, .slice pu 0 cu, .int .i64 0, .bool false] 44 _ HU9.out rfl rfl (by rfl) Try.underlying44 rfl (by kernel_rfl) ⟨⟨1, s, M, 1099511627776, l, 0, false⟩, _, rfl, ochk_ev hq.1 (by omega) (by omega) (by omega) (by omega) hq.2.2.1, ((HV6.out.fr HF9.out HR6.out (by decide)).weak (by omega)), below_fr HB6.out HF9.out (by omega)⟩
    · have hn1 : (0 : Int) < (nu : Int) := by omega
      obtain ⟨g0, hpu⟩ : ∃ g0, pu = some ⟨g0, 0, none⟩ := by
        have h := HV5.out
        unfold VO at h
        rcases h.2 with ⟨h1, h2⟩ | ⟨g, cap, cur, h1, _⟩
        · simp at h1; omega
        · simp at h1; exact ⟨g, h1.1⟩
      subst hpu
      go_upto_region 6 with ((with_reducible show wpList _ _ _ (Oper.mk _ (.store 41 _ _) _ _ _ _ :: _) _ _); refine wp_st (by rfl) 41 _ _ (by rfl) w4.heap.size 2 [.int .i64 1, .string s, .int .i64 a, .int .i64 b, .slice (some ⟨g0,0,none⟩) nu cu, .int .i64 0, .bool false] 44 (.agg #[.int .i64 M, .int .i64 1099511627776]) [.int .i64 M, .int .i64 1099511627776] (by rfl) (by rfl) (by rfl) HU5.out (by simp) (by kernel_rfl) (by rfl) ?_; intro w6 hq1 hq2; have HU6 := hid hq1; have HF6 := hid hq2; clear hq1 hq2; have x0 : w6.cell? ⟨w4.heap.size, 0, none⟩ = some (.int .i64 1) := (by rw [cell_of_blk HU6.out]; rfl); have x1 : w6.cell? ⟨w4.heap.size, 1, none⟩ = some (.string s) := (by rw [cell_of_blk HU6.out]; rfl); have x2 : w6.cell? ⟨w4.heap.size, 2, none⟩ = some (.int .i64 M) := (by rw [cell_of_blk HU6.out]; rfl); have x3 : w6.cell? ⟨w4.heap.size, 3, none⟩ = some (.int .i64 1099511627776) := (by rw [cell_of_blk HU6.out]; rfl); have x4 : w6.cell? ⟨w4.heap.size, 4, none⟩ = some (.slice (some ⟨g0,0,none⟩) nu cu) := (by rw [cell_of_blk HU6.out]; rfl); have x5 : w6.cell? ⟨w4.heap.size, 5, none⟩ = some (.int .i64 0) := (by rw [cell_of_blk HU6.out]; rfl); have x6 : w6.cell? ⟨w4.heap.size, 6, none⟩ = some (.bool false) := (by rw [cell_of_blk HU6.out]; rfl))
      clear d0
      have HU6c : Hid (w6.heap[w4.heap.size]? = some (.cells #[.int .i64 1, .string s, .int .i64 M, .int .i64 1099511627776, .slice (some ⟨g0,0,none⟩) nu cu, .int .i64 0, .bool false] 44 (0, 0))) := HU6.out
      have HB6 : Hid (Below w.heap.size w w6) := below_fr HB5.out HF6.out HB4.out.size
      have HR6 : Hid (w6.heap[w.heap.size + 1]? = some (.cells #[.int .i64 0, .string ⟨#[]⟩, .int .i64 0, .int .i64 0, .slice none 0 0, .int .i64 0, .bool false] 44 (0, 0))) := hid (blk_set HR5.out HF6.out (by have := HB4L.out; omega))
      have HV6 : Hid (VO w6 (w.heap.size + 2) (.slice (some ⟨g0, 0, none⟩) nu cu) l) := HV5.out.fr HF6.out HU5.out (by decide)
      clear HU6 HF6 HF5 HU5 HR5 HB5 HV5 HR4 HV4
      go_upto_region 7 with (first | (at_builtin; go_loud (refine wp_copyV (by rfl) _ _ (by rfl) w6 (w.heap.size + 2) g0 nu cu l (by rfl) (by rfl) HV6.out (by have := HFS.out; omega) ?_); intro v7 w7 hq1 hq2; have HV7 := hid hq1; have HBL7 := hid hq2; clear hq1 hq2; obtain ⟨p7, n7, c7, hsh⟩ := HV7.out.shape3; subst hsh; have HU7 : Hid (w7.heap[w4.heap.size]? = some (.cells #[.int .i64 1, .string s, .int .i64 M, .int .i64 1099511627776, .slice (some ⟨g0,0,none⟩) nu cu, .int .i64 0, .bool false] 44 (0, 0))) := (HBL7.out.block _ (blk_lt HU6c.out)).trans HU6c.out) | ((with_reducible show wpList _ _ _ (Oper.mk _ (.store 42 _ _) _ _ _ _ :: _) _ _); refine wp_st (by rfl) 42 _ _ (by rfl) w4.heap.size 4 [.int .i64 1, .string s, .int .i64 M, .int .i64 1099511627776, .slice (some ⟨g0,0,none⟩) nu cu, .int .i64 0, .bool false] 44 (.slice p7 n7 c7) [.slice p7 n7 c7] (by rfl) (by rfl) (by rfl) HU7.out (by simp) (by kernel_rfl) (by rfl) ?_; intro w8 hq1 hq2; have HU8 := hid hq1; have HF8 := hid hq2; clear hq1 hq2))
      obtain ⟨v0, r0, hl0⟩ : ∃ v0 r0, l = v0 :: r0 := by
        cases l with
        | nil => have := HLN.out; simp at this; omega
        | cons v0 r0 => exact ⟨v0, r0, rfl⟩
      have HL7 := hid (VO.len HV7.out)
      have HL0 := hid hl0
      have HE7 : Hid (n7 = (v0 :: r0).length) := by rw [← hl0]; exact HL7.out
      have hn7 : (0 : Int) < (n7 : Int) := by rw [HL7.out, hl0]; simp <;> omega
      obtain ⟨g7, hp7, hg7⟩ : ∃ g7, p7 = some ⟨g7, 0, none⟩ ∧ w6.heap.size ≤ g7 := by
        have h := HV7.out
        unfold VO at h
        rcases h.2 with ⟨h1, h2⟩ | ⟨g, cap, cur, h1, h2, _⟩
        · simp at h1; omega
        · simp at h1; exact ⟨g, h1.1, h2⟩
      subst hp7
      have HSZ6 : Hid (w.heap.size ≤ w6.heap.size) := HB6.out.size
      have HG7 : Hid (w4.heap.size < g7) := Nat.lt_of_lt_of_le (blk_lt HU6c.out) hg7
      have HU8c : Hid (w8.heap[w4.heap.size]? = some (.cells #[.int .i64 1, .string s, .int .i64 M, .int .i64 1099511627776, .slice (some ⟨g7,0,none⟩) n7 c7, .int .i64 0, .bool false] 44 (0, 0))) := HU8.out
      have HV8 : Hid (VO w8 w6.heap.size (.slice (some ⟨g7,0,none⟩) n7 c7) (v0 :: r0)) := by rw [← hl0]; exact HV7.out.fr HF8.out HU7.out (by decide)
      have HB8 : Hid (Below w.heap.size w w8) := below_fr (below_trans HB6.out HBL7.out HB6.out.size) HF8.out HB4.out.size
      have HR8 : Hid (w8.heap[w.heap.size + 1]? = some (.cells #[.int .i64 0, .string ⟨#[]⟩, .int .i64 0, .int .i64 0, .slice none 0 0, .int .i64 0, .bool false] 44 (0, 0))) := hid (blk_set ((HBL7.out.block _ (blk_lt HR6.out)).trans HR6.out) HF8.out (by have := HB4L.out; omega))
      have c4 : w8.cell? ⟨w4.heap.size, 4, none⟩ = some (.slice (some ⟨g7,0,none⟩) n7 c7) := by rw [cell_of_blk HU8c.out]; rfl
      have y1 : w8.cell? ⟨g7, 1, none⟩ = some (.int .i64 v0.n) := by
        have h := HV8.out
        unfold VO at h
        rw [← HE7.out] at h
        rw [h.cellAt 1 (by omega)]
        rfl
      have f1 : w8.frozen? ⟨g7, 1, none⟩ = false := by
        have h := HV8.out
        unfold VO at h
        rw [← HE7.out] at h
        exact h.frozenAt 1
      have HO9 : Hid (∀ v, (w8.setCell ⟨g7, 1, none⟩ v).heap[w4.heap.size]? = some (.cells #[.int .i64 1, .string s, .int .i64 M, .int .i64 1099511627776, .slice (some ⟨g7,0,none⟩) n7 c7, .int .i64 0, .bool false] 44 (0, 0))) := fun v => (heap_other v (by have := HG7.out; omega)).trans HU8c.out
      have HR9 : Hid (∀ v, (w8.setCell ⟨g7, 1, none⟩ v).heap[w.heap.size + 1]? = some (.cells #[.int .i64 0, .string ⟨#[]⟩, .int .i64 0, .int .i64 0, .slice none 0 0, .int .i64 0, .bool false] 44 (0, 0))) := fun v => (heap_other v (by have := HG7.out; have := HB4L.out; omega)).trans HR8.out
      have z0 : ∀ v, (w8.setCell ⟨g7, 1, none⟩ v).cell? ⟨w4.heap.size, 0, none⟩ = some (.int .i64 1) := fun v => by rw [cell_of_blk (HO9.out v)]; rfl
      have z1 : ∀ v, (w8.setCell ⟨g7, 1, none⟩ v).cell? ⟨w4.heap.size, 1, none⟩ = some (.string s) := fun v => by rw [cell_of_blk (HO9.out v)]; rfl
      have z2 : ∀ v, (w8.setCell ⟨g7, 1, none⟩ v).cell? ⟨w4.heap.size, 2, none⟩ = some (.int .i64 M) := fun v => by rw [cell_of_blk (HO9.out v)]; rfl
      have z3 : ∀ v, (w8.setCell ⟨g7, 1, none⟩ v).cell? ⟨w4.heap.size, 3, none⟩ = some (.int .i64 1099511627776) := fun v => by rw [cell_of_blk (HO9.out v)]; rfl
      have z4 : ∀ v, (w8.setCell ⟨g7, 1, none⟩ v).cell? ⟨w4.heap.size, 4, none⟩ = some (.slice (some ⟨g7,0,none⟩) n7 c7) := fun v => by rw [cell_of_blk (HO9.out v)]; rfl
      have z5 : ∀ v, (w8.setCell ⟨g7, 1, none⟩ v).cell? ⟨w4.heap.size, 5, none⟩ = some (.int .i64 0) := fun v => by rw [cell_of_blk (HO9.out v)]; rfl
      have z6 : ∀ v, (w8.setCell ⟨g7, 1, none⟩ v).cell? ⟨w4.heap.size, 6, none⟩ = some (.bool false) := fun v => by rw [cell_of_blk (HO9.out v)]; rfl
      clear hl0 x0 x1 x2 x3 x4 x5 x6 HV6 HV7 HR6 HU6c HU7 HU8 HU8c HR8 HBL7 HF8 HB6
      go_upto_region 10 with fail
      have HTM : Hid (-1125899906842624 ≤ n.tmod 1125899906842624 ∧ n.tmod 1125899906842624 ≤ 1125899906842624) := by
        have := Int.tmod_lt_of_pos n (by decide : (0 : Int) < 1125899906842624)
        have := Int.lt_tmod_of_pos n (by decide : (0 : Int) < 1125899906842624)
        exact ⟨by omega, by omega⟩
      obtain ⟨x9, hx9⟩ : ∃ x, n.tmod 1125899906842624 = x := ⟨_, rfl⟩
      rw [hx9] at HTM ⊢
      clear hx9
      have HV9 : Hid (VO (w8.setCell ⟨g7, 1, none⟩ (.int .i64 x9)) w6.heap.size (.slice (some ⟨g7,0,none⟩) n7 c7) (⟨v0.k, x9, v0.s⟩ :: r0)) := by
        have h := HV8.out
        unfold VO at h
        rw [← HE7.out] at h
        have h2 := h.stored 1 (.int .i64 x9)
        show VO _ _ _ _
        unfold VO
        rw [show (⟨v0.k, x9, v0.s⟩ :: r0 : List Vl).length = n7 from by rw [HE7.out]; rfl]
        simpa [List.flatMap_cons, encV] using h2.1
      have HB9 : Hid (Below w.heap.size w (w8.setCell ⟨g7, 1, none⟩ (.int .i64 x9))) := HB8.out.setCell (by have := HG7.out; have := HB4.out.size; show w.heap.size ≤ g7; omega) _
      have HOX := hid (HO9.out (.int .i64 x9))
      have HRX := hid (HR9.out (.int .i64 x9))
      have t0 := z0 (.int .i64 x9)
      have t1 := z1 (.int .i64 x9)
      have t2 := z2 (.int .i64 x9)
      have t3 := z3 (.int .i64 x9)
      have t4 := z4 (.int .i64 x9)
      have t5 := z5 (.int .i64 x9)
      have t6 := z6 (.int .i64 x9)
      clear z0 z1 z2 z3 z4 z5 z6 HO9 HR9 y1 f1 c4
      generalize w8.setCell ⟨g7, 1, none⟩ (.int .i64 x9) = W9 at *
      go_wp2_with ((with_reducible show wpList _ _ _ (Oper.mk _ (.store 44 _ _) _ _ _ _ :: _) _ _); refine wp_st (by rfl) 44 _ _ (by rfl) (w.heap.size + 1) 0 [.int .i64 0, .string ⟨#[]⟩, .int .i64 0, .int .i64 0, .slice none 0 0, .int .i64 0, .bool false] 44 (.agg #[.int .i64 1, .string s, .int .i64 M, .int .i64 1099511627776, .slice (some ⟨g7,0,none⟩) n7 c7, .int .i64 0, .bool false]) [.int .i64 1, .string s, .int .i64 M, .int .i64 1099511627776, .slice (some ⟨g7,0,none⟩) n7 c7, .int .i64 0, .bool false] (by rfl) (by rfl) (by rfl) HRX.out (by simp) (by kernel_rfl) (by rfl) ?_; intro w9 hq1 hq2; have HU9 := hid hq1; have HF9 := hid hq2; clear hq1 hq2)
      have hq := HFS.out
      have hm := HM.out
      have hcv : vchk ⟨v0.k, x9, v0.s⟩ = 0 := by
        obtain ⟨e1, e2⟩ := hq.2.2.2 v0 r0 HL0.out
        rw [e1, e2]
        exact vchk_int HTM.out
      have hall : ∀ v ∈ (⟨v0.k, x9, v0.s⟩ :: r0 : List Vl), vchk v = 0 := by
        intro v hv
        rcases List.mem_cons.1 hv with rfl | hv
        · exact hcv
        · exact hq.2.2.1 v (by rw [HL0.out]; exact List.mem_cons_of_mem _ hv)
      have hll : (⟨v0.k, x9, v0.s⟩ :: r0 : List Vl).length ≤ 4 := by
        have := hq.2.1
        rw [HL0.out] at this
        simp at this ⊢
        omega
      exact ret_loc (w.heap.size + 1) [.int .i64 1, .string s, .int .i64 M, .int .i64 1099511627776, .slice (some ⟨g7,0,none⟩) n7 c7, .int .i64 0, .bool false] 44 _ HU9.out rfl rfl (by rfl) Try.underlying44 rfl (by kernel_rfl) ⟨⟨1, s, M, 1099511627776, ⟨v0.k, x9, v0.s⟩ :: r0, 0, false⟩, _, rfl, ochk_ev hq.1 (by omega) (by omega) (by omega) hll hall, ((HV9.out.fr HF9.out HRX.out (by decide)).weak (by have := HG7.out; have := HB4L.out; have := HSZ6.out; omega)), below_fr HB9.out HF9.out (by omega)⟩
  · have hx : (⟨k, s, a, b, l, d, c⟩ : Opn) = advO x co := hx
    unfold advO at hx
    simp only [Opn.mk.injEq] at hx
    obtain ⟨rfl, rfl, rfl, rfl, rfl, rfl, rfl⟩ := hx
    have HX := hid (And.intro hx0 hx1)
    clear hx0 hx1 hn1 hm1
    go_wp2_with fail
    refine (HPN.out _).mono ?_
    rintro e w5 ⟨rfl, rfl⟩
    go_upto_region 10 with ((with_reducible show wpList _ _ _ (Oper.mk _ (.store 3 _ _) _ _ _ _ :: _) _ _); refine wp_st (by rfl) 3 _ _ (by rfl) w4.heap.size 5 [.int .i64 2, .string ⟨#[]⟩, .int .i64 0, .int .i64 0, .slice pu nu cu, .int .i64 d, .bool c] 44 (.int .i64 N2) [.int .i64 N2] (by rfl) (by rfl) (by rfl) HU5.out (by simp) (by kernel_rfl) (by rfl) ?_; intro w6 hq1 hq2; have HU6 := hid hq1; have HF6 := hid hq2; clear hq1 hq2)
    have HU6c : Hid (w6.heap[w4.heap.size]? = some (.cells #[.int .i64 2, .string ⟨#[]⟩, .int .i64 0, .int .i64 0, .slice pu nu cu, .int .i64 N2, .bool c] 44 (0, 0))) := HU6.out
    have HB6 : Hid (Below w.heap.size w w6) := below_fr HB5.out HF6.out HB4.out.size
    have HR6 : Hid (w6.heap[w.heap.size + 1]? = some (.cells #[.int .i64 0, .string ⟨#[]⟩, .int .i64 0, .int .i64 0, .slice none 0 0, .int .i64 0, .bool false] 44 (0, 0))) := hid (blk_set HR5.out HF6.out (by have := HB4L.out; omega))
    have HV6 : Hid (VO w6 (w.heap.size + 2) (.slice pu nu cu) []) := HV5.out.fr HF6.out HU5.out (by decide)
    clear HU6 HF6 HF5 HU5 HR5 HB5 HV5 HR4 HV4 d0
    have x0 : w6.cell? ⟨w4.heap.size, 0, none⟩ = some (.int .i64 2) := by rw [cell_of_blk HU6c.out]; rfl
    have x1 : w6.cell? ⟨w4.heap.size, 1, none⟩ = some (.string ⟨#[]⟩) := by rw [cell_of_blk HU6c.out]; rfl
    have x2 : w6.cell? ⟨w4.heap.size, 2, none⟩ = some (.int .i64 0) := by rw [cell_of_blk HU6c.out]; rfl
    have x3 : w6.cell? ⟨w4.heap.size, 3, none⟩ = some (.int .i64 0) := by rw [cell_of_blk HU6c.out]; rfl
    have x4 : w6.cell? ⟨w4.heap.size, 4, none⟩ = some (.slice pu nu cu) := by rw [cell_of_blk HU6c.out]; rfl
    have x5 : w6.cell? ⟨w4.heap.size, 5, none⟩ = some (.int .i64 N2) := by rw [cell_of_blk HU6c.out]; rfl
    have x6 : w6.cell? ⟨w4.heap.size, 6, none⟩ = some (.bool c) := by rw [cell_of_blk HU6c.out]; rfl
    go_wp2_with ((with_reducible show wpList _ _ _ (Oper.mk _ (.store 44 _ _) _ _ _ _ :: _) _ _); refine wp_st (by rfl) 44 _ _ (by rfl) (w.heap.size + 1) 0 [.int .i64 0, .string ⟨#[]⟩, .int .i64 0, .int .i64 0, .slice none 0 0, .int .i64 0, .bool false] 44 (.agg #[.int .i64 2, .string ⟨#[]⟩, .int .i64 0, .int .i64 0, .slice pu nu cu, .int .i64 N2, .bool c]) [.int .i64 2, .string ⟨#[]⟩, .int .i64 0, .int .i64 0, .slice pu nu cu, .int .i64 N2, .bool c] (by rfl) (by rfl) (by rfl) HR6.out (by simp) (by kernel_rfl) (by rfl) ?_; intro w9 hq1 hq2; have HU9 := hid hq1; have HF9 := hid hq2; clear hq1 hq2)
    have hn := HN2.out
    exact ret_loc (w.heap.size + 1) [.int .i64 2, .string ⟨#[]⟩, .int .i64 0, .int .i64 0, .slice pu nu cu, .int .i64 N2, .bool c] 44 _ HU9.out rfl rfl (by rfl) Try.underlying44 rfl (by kernel_rfl) ⟨advO N2 c, _, rfl, ochk_adv c (by omega) (by omega), ((HV6.out.fr HF9.out HR6.out (by decide)).weak (by omega)), below_fr HB6.out HF9.out (by omega)⟩
  · have hx : (⟨k, s, a, b, l, d, c⟩ : Opn) = qryO j := hx
    unfold qryO at hx
    simp only [Opn.mk.injEq] at hx
    obtain ⟨rfl, hs5, rfl, rfl, rfl, rfl, rfl⟩ := hx
    have HS5 := hid hs5
    clear hs5
    have x0 : w5.cell? ⟨w4.heap.size, 0, none⟩ = some (.int .i64 3) := by rw [cell_of_blk HU5.out]; rfl
    have x1 : w5.cell? ⟨w4.heap.size, 1, none⟩ = some (.string s) := by rw [cell_of_blk HU5.out]; rfl
    have x2 : w5.cell? ⟨w4.heap.size, 2, none⟩ = some (.int .i64 0) := by rw [cell_of_blk HU5.out]; rfl
    have x3 : w5.cell? ⟨w4.heap.size, 3, none⟩ = some (.int .i64 0) := by rw [cell_of_blk HU5.out]; rfl
    have x4 : w5.cell? ⟨w4.heap.size, 4, none⟩ = some (.slice pu nu cu) := by rw [cell_of_blk HU5.out]; rfl
    have x5 : w5.cell? ⟨w4.heap.size, 5, none⟩ = some (.int .i64 0) := by rw [cell_of_blk HU5.out]; rfl
    have x6 : w5.cell? ⟨w4.heap.size, 6, none⟩ = some (.bool false) := by rw [cell_of_blk HU5.out]; rfl
    clear d0
    go_wp2_with ((with_reducible show wpList _ _ _ (Oper.mk _ (.store 44 _ _) _ _ _ _ :: _) _ _); refine wp_st (by rfl) 44 _ _ (by rfl) (w.heap.size + 1) 0 [.int .i64 0, .string ⟨#[]⟩, .int .i64 0, .int .i64 0, .slice none 0 0, .int .i64 0, .bool false] 44 (.agg #[.int .i64 3, .string s, .int .i64 0, .int .i64 0, .slice pu nu cu, .int .i64 0, .bool false]) [.int .i64 3, .string s, .int .i64 0, .int .i64 0, .slice pu nu cu, .int .i64 0, .bool false] (by rfl) (by rfl) (by rfl) HR5.out (by simp) (by kernel_rfl) (by rfl) ?_; intro w9 hq1 hq2; have HU9 := hid hq1; have HF9 := hid hq2; clear hq1 hq2)
    exact ret_loc (w.heap.size + 1) [.int .i64 3, .string s, .int .i64 0, .int .i64 0, .slice pu nu cu, .int .i64 0, .bool false] 44 _ HU9.out rfl rfl (by rfl) Try.underlying44 rfl (by kernel_rfl) ⟨⟨3, s, 0, 0, [], 0, false⟩, _, rfl, by rw [HS5.out]; exact ochk_qry j, ((HV5.out.fr HF9.out HR5.out (by decide)).weak (by omega)), below_fr HB5.out HF9.out (by omega)⟩
end Go.Proofs.Ytepgkemnpcadiab
