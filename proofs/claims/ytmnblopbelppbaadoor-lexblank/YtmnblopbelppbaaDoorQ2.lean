/-
  Tokens of raw things: Strings; all of them.
-/
import Derived.Test.YtmnblopbelppbaaDoorQ
namespace Go.Proofs.YtmnblopbelppbaaDoor
open Go.ChangeShapes Go.WideShapes Go.ChangeAt Go.RowKit Go.Maps Go.Deep
set_option linter.unusedVariables false
set_option linter.unusedSimpArgs false
set_option maxHeartbeats 8000000 in
theorem token_2 (k n : Int) (s : ByteArray) (w : World) (hP : ∀ W, Calls Tryd.prog 18 #[.int .i64 k, .int .i64 4] W fun e w' => e = .returned (.int .i64 2) ∧ w' = W) :
    Calls Tryd.prog 37 #[.agg #[.int .i64 k, .int .i64 n, .string s]] w fun e w' => ∃ t, e = .returned (tV t) ∧ tchk t = 0 ∧ Below w.heap.size w w' := by
  have HP : Hid (∀ W, Calls Tryd.prog 18 #[.int .i64 k, .int .i64 4] W fun e w' => e = .returned (.int .i64 2) ∧ w' = W) := hP
  obtain ⟨i0, a1, a2, a3, a4⟩ := info_parts infoB
  have HI : Hid (Tryd.prog.info? 5 = some i0 ∧ i0.zero = some (.int .u8 0) ∧ i0.size = 1 ∧ i0.bytes = 1) := ⟨a1, a2, a3, a4⟩
  clear hP a1 a2 a3 a4
  go_enter Tryd.func37, Tryd.ntmps37
  go_wp2_with fail
  refine (HP.out _).mono ?_
  rintro e W0 ⟨rfl, hW0⟩
  have hT : Tb w W0 s n := by rw [hW0]; exact Tb.new w k n s
  have HTB : Hid (Tb w W0 s n) := hT
  clear hW0 hT
  go_wp2
  go_loopw [5, 6] (fun v i wr => ∃ (j : Nat) (bs : List UInt8), j ≤ s.size ∧ j ≤ 20 ∧ i = .int .i64 (j : Nat) ∧ bs.length ≤ j ∧ (34 : UInt8) ∉ bs ∧ wr.ownsRow (w.heap.size + 2) 5 1 v bs.length (Lib.byteCells bs) ∧ Below (w.heap.size + 2) W0 wr) (fun _ i _ => 21 - (intOf i).toNat)
  case atStart => exact ⟨0, [], by omega, by omega, rfl, by simp, by simp, World.ownsRow_nil _ _ _ _, Below.refl _ _⟩
  case round =>
    obtain ⟨j, bs, hj, hj20, rfl, hbl, h34, hrow, hB⟩ := hrel
    obtain ⟨pu, cu, rfl⟩ := own_shape hrow
    by_cases hgo : j < s.size ∧ j < 20
    · obtain ⟨hjs, hjt⟩ := hgo
      have hT := HTB.out.on hB
      have c2 := hT.c2
      have HSZ : Hid (w.heap.size + 2 ≤ wr.heap.size) := hT.size
      have HROW : Hid (wr.ownsRow (w.heap.size + 2) 5 1 (.slice pu bs.length cu) bs.length (Lib.byteCells bs)) := hrow
      obtain ⟨bl, hbl2⟩ : ∃ bl, bs.length = bl := ⟨_, rfl⟩
      rw [hbl2] at HROW hbl ⊢
      have HBL : Hid (bs.length = bl) := hbl2
      have H34 : Hid ((34 : UInt8) ∉ bs) := h34
      have HB : Hid (Below (w.heap.size + 2) W0 wr) := hB
      have i1 : (j : Int) < (s.size : Int) := by omega
      have i2 : (j : Int) < 20 := by omega
      have e34 : s[j] = 34 ↔ (s[j].toNat : Int) = 34 := u8_eq _ 34 (by omega)
      clear hrow hbl2 h34 hB hT
      by_cases hq : (s[j].toNat : Int) = 34
      · clear e34
        go_wp2
        go_roundw
        case rel => exact ⟨j + 1, bs, by omega, by omega, by go_num, by have := HBL.out; omega, H34.out, by rw [HBL.out]; exact HROW.out, HB.out⟩
        case measure => simp [intOf]; omega
      · have HNE : Hid (¬ s[j] = 34) := fun h => hq (e34.1 h)
        have hqb : ((s[j].toNat : Int) == 34) = false := by simpa using hq
        have hqn : ((s[j].toNat : Int) != 34) = true := by simpa using hq
        clear e34
        go_wp2_with (at_builtin; go_loud (refine wpList_append_own_at _ (by rfl) _ _ 39 (by rfl) (w.heap.size + 2) 5 i0 (.int .u8 0) 1 1 Tryd.underlying39 HI.out.1 HI.out.2.1 HI.out.2.2.1 HI.out.2.2.2 rfl (by omega) (.slice pu bl cu) bl (Lib.byteCells bs) (by rfl) (HROW.out.alloc _) ⟨wr.heap.size, 0, none⟩ 1 1 [.int .u8 (s[j].toNat : Int)] (by rfl) (by rfl) (World.news_of_block (heap_alloc_new _ _)) (by simp [Value.oneCell']) (by unfold maxLen; omega) (by omega) (by simp; have := HSZ.out; omega) ?_); intro v' w3 hown hgrow hiff hat; have HO : Hid (w3.ownsRow (w.heap.size + 2) 5 1 v' (bl + 1) (Lib.byteCells bs ++ [.int .u8 (s[j].toNat : Int)])) := hown; have HB3 : Hid (Below (w.heap.size + 2) W0 w3) := (HB.out.alloc (by have := HSZ.out; omega) _).grown hgrow (by simp; have := HSZ.out; omega) (fun k hk => (HROW.out.lt k hk).1); obtain ⟨pv, cv, hvv⟩ := own_shape hown; subst hvv; clear hown hgrow hat hiff)
        go_roundw
        case rel => exact ⟨j + 1, bs ++ [s[j]], by omega, by omega, by go_num, by rw [List.length_append, HBL.out]; simp; omega, fun hy => by
          rcases List.mem_append.1 hy with h | h
          · exact H34.out h
          · exact HNE.out (List.mem_singleton.1 h).symm, by rw [List.length_append, HBL.out]; simpa [Lib.byteCells] using HO.out, HB3.out⟩
        case measure => simp [intOf]; omega
    · have hex : decide ((j : Int) < (s.size : Int)) = false ∨ (decide ((j : Int) < (s.size : Int)) = true ∧ decide ((j : Int) < 20) = false) := by
        by_cases h : j < s.size
        · right; simp; omega
        · left; simp; omega
      have hcv := conv_own hrow
      obtain ⟨y, hy⟩ : ∃ y, txt bs = y := ⟨_, rfl⟩
      rw [hy] at hcv
      have hT := HTB.out.on hB
      have HTB1 : Hid (Tb w wr s n) := hT
      have c2 := hT.c2; have r0 := hT.r0; have r1 := hT.r1; have r2 := hT.r2; have f0 := hT.f0; have f1 := hT.f1; have f2 := hT.f2
      have HT : Hid (tchk ⟨3, y, 0⟩ = 0) := by rw [← hy]; exact tchk_str bs h34 (by omega)
      clear hT hrow hB hy
      rcases hex with hx1 | ⟨hx1, hx2⟩
      all_goals go_wp2
      all_goals
       refine bodyPost_ret (res1 Tryd.results37 _ _ (w.heap.size + 1) _ _ (by rfl) (range3 r0 r1 r2) Tryd.underlying29 rfl (by kernel_rfl)) rfl ?_
       exact ⟨⟨3, y, 0⟩, rfl, HT.out, below3 HTB1.out.below _ (by omega)⟩
theorem token_any (p : Pc) (hp : wfP p) (w : World) :
    Calls Tryd.prog 37 #[.agg #[.int .i64 p.k, .int .i64 p.n, .string p.s]] w fun e w' => ∃ t, e = .returned (tV t) ∧ tchk t = 0 ∧ Below w.heap.size w w' := by
  obtain ⟨x, hx, hX⟩ := picked_const p.k 4 4 rfl hp.1 (by omega) (by omega)
  rcases (by omega : x = 0 ∨ x = 1 ∨ x = 2 ∨ x = 3) with rfl | rfl | rfl | rfl
  · exact token_0 _ _ _ w hX
  · exact token_1 _ _ _ w hp.2.1 hX
  · exact token_2 _ _ _ w hX
  · exact token_3 _ _ _ w hp.2.1 hX
set_option maxHeartbeats 8000000 in
theorem tokens_any (v : Value) (l : List Pc) (w : World) (hv : PiecesAt w v l) (hw : ∀ p ∈ l, wfP p) :
    Calls Tryd.prog 16 #[v] w fun e w' => ∃ u ts, e = .returned u ∧ TokensAt w' u ts ∧ ts.length ≤ 40 ∧ (∀ t ∈ ts, tchk t = 0) ∧ Below w.heap.size w w' := by
  obtain ⟨p, cap, rfl, hcap, hmax, hp⟩ := hv
  obtain ⟨n, hnl⟩ : ∃ n, l.length = n := ⟨_, rfl⟩
  have HP : Hid (0 < l.length → ∃ g off, p = some ⟨g, off, none⟩ ∧ ∀ j (hj : j < l.length), g < w.heap.size ∧ w.cell? ⟨g, off + j * 3, none⟩ = some (.int .i64 l[j].k) ∧ w.cell? ⟨g, off + j * 3 + 1, none⟩ = some (.int .i64 l[j].n) ∧ w.cell? ⟨g, off + j * 3 + 2, none⟩ = some (.string l[j].s)) := hp
  have HNL : Hid (l.length = n) := hnl
  have HW : Hid (∀ p ∈ l, wfP p) := hw
  have hmx : (n : Int) ≤ 9223372036854775807 := by unfold maxLen at hmax; omega
  obtain ⟨i0, a1, a2, a3, a4⟩ := info_parts infoT
  have HI : Hid (Tryd.prog.info? 29 = some i0 ∧ i0.zero = some (.agg #[.int .i64 0, .string ByteArray.empty, .int .i64 0]) ∧ i0.size = 3 ∧ i0.bytes = 32) := ⟨a1, a2, a3, a4⟩
  rw [hnl]
  clear hp hnl hcap hmax hw a1 a2 a3 a4
  go_enter Tryd.func16, Tryd.ntmps16
  go_wp2
  go_loopw [3, 4] (fun u i wr => ∃ (k : Nat) (ts : List Tk), k ≤ n ∧ k ≤ 40 ∧ i = .int .i64 k ∧ ts.length = k ∧ (∀ t ∈ ts, tchk t = 0) ∧ wr.ownsRow w.heap.size 29 3 u ts.length (ts.flatMap encT) ∧ Below w.heap.size w wr) (fun _ i _ => 41 - (intOf i).toNat)
  case atStart => exact ⟨0, [], by omega, by omega, rfl, rfl, by simp, World.ownsRow_nil _ _ _ _, Below.refl _ _⟩
  case round =>
    obtain ⟨k, ts, hk, hk4, rfl, htl, hfine, hrow, hB⟩ := hrel
    obtain ⟨pu, cu, rfl⟩ := own_shape hrow
    have HROW : Hid (wr.ownsRow w.heap.size 29 3 (.slice pu ts.length cu) ts.length (ts.flatMap encT)) := hrow
    have HB : Hid (Below w.heap.size w wr) := hB
    have HFINE : Hid (∀ t ∈ ts, tchk t = 0) := hfine
    have HTL : Hid (ts.length = k) := htl
    rw [htl] at HROW ⊢
    clear hrow hfine
    by_cases hgo : k < n ∧ k < 40
    · obtain ⟨hlt, hl4⟩ := hgo
      have hkd : k < l.length := by have := HNL.out; omega
      obtain ⟨g, off, hg, hc⟩ := HP.out (by omega)
      obtain ⟨hgs, c0, c1, c2⟩ := hc k hkd
      subst hg
      have hwk := HW.out _ (List.getElem_mem hkd)
      obtain ⟨d, hdk⟩ : ∃ d, l[k] = d := ⟨_, rfl⟩
      rw [hdk] at c0 c1 c2 hwk
      have b0 : wr.cell? ⟨g, off + k * 3, none⟩ = some (.int .i64 d.k) := (hB.cell (p := ⟨g, off + k * 3, none⟩) hgs).trans c0
      have b1 : wr.cell? ⟨g, off + k * 3 + 1, none⟩ = some (.int .i64 d.n) := (hB.cell (p := ⟨g, off + k * 3 + 1, none⟩) hgs).trans c1
      have b2 : wr.cell? ⟨g, off + k * 3 + 2, none⟩ = some (.string d.s) := (hB.cell (p := ⟨g, off + k * 3 + 2, none⟩) hgs).trans c2
      have i1 : (0 : Int) ≤ (k : Int) := by omega
      have i2 : (k : Int) < (n : Int) := by omega
      have i3 : (k : Int) < 40 := by omega
      have HTK : Hid (∀ W, Calls Tryd.prog 37 #[.agg #[.int .i64 d.k, .int .i64 d.n, .string d.s]] W fun e w' => ∃ t, e = .returned (tV t) ∧ tchk t = 0 ∧ Below W.heap.size W w') := fun W => token_any d hwk W
      clear hc hdk c0 c1 c2 hgs hB hkd hwk htl
      go_wp2_with (first
        | (at_builtin; go_loud (refine wpList_append_own_at _ (by rfl) _ _ 22 (by rfl) w.heap.size 29 i0 (.agg #[.int .i64 0, .string ByteArray.empty, .int .i64 0]) 3 32 Tryd.underlying22 HI.out.1 HI.out.2.1 HI.out.2.2.1 HI.out.2.2.2 rfl (by omega) (.slice pu k cu) k (ts.flatMap encT) (by rfl) ((HROW3.out.alloc _).alloc _) ⟨w3.heap.size + 1, 0, none⟩ 1 1 (encT ⟨tk, tx, tn⟩) (by rfl) (by rfl) (World.news_of_block (heap_two _ _ _)) (by simp [encT, Value.oneCell']) (by unfold maxLen; omega) (by omega) (by simp; have := HB3.out.size; omega) ?_); intro v' w4 hown hgrow hiff hat; have HO : Hid (w4.ownsRow w.heap.size 29 3 v' (k + 1) (ts.flatMap encT ++ encT ⟨tk, tx, tn⟩)) := hown; have HB4 : Hid (Below w.heap.size w w4) := ((HB3.out.alloc HB3.out.size _).alloc (by simp; have := HB3.out.size; omega) _).grown hgrow (by simp; have := HB3.out.size; omega) (fun k hk => (HROW3.out.lt k hk).1); obtain ⟨pv, cv, hvv⟩ := own_shape hown; subst hvv; clear hown hgrow hat hiff)
        | (go_at_call 37; refine (HTK.out _).mono ?_; rintro e w3 ⟨⟨tk, tx, tn⟩, rfl, htt, hb3⟩; have HB3 : Hid (Below w.heap.size w w3) := below_trans HB.out hb3 HB.out.size; have HROW3 : Hid (w3.ownsRow w.heap.size 29 3 (.slice pu k cu) k (ts.flatMap encT)) := own_below HROW.out hb3; have HTT : Hid (tchk ⟨tk, tx, tn⟩ = 0) := htt; clear hb3 htt; unfold tV))
      go_roundw
      case rel => exact ⟨k + 1, ts ++ [⟨tk, tx, tn⟩], by omega, by omega, by go_num, by rw [List.length_append, HTL.out]; rfl, fun t ht => by
        rcases List.mem_append.1 ht with h | h
        · exact HFINE.out t h
        · rw [List.mem_singleton.1 h]; exact HTT.out, by rw [List.length_append, HTL.out, List.flatMap_append]; simpa using HO.out, HB4.out⟩
      case measure => simp [intOf]; omega
    · have hex : decide ((k : Int) < (n : Int)) = false ∨ (decide ((k : Int) < (n : Int)) = true ∧ decide ((k : Int) < 40) = false) := by
        by_cases h : k < n
        · right; simp; omega
        · left; simp; omega
      have HTA : Hid (TokensAt wr (.slice pu k cu) ts) := by
        have := HROW.out
        rw [← HTL.out] at this ⊢
        exact toks_own this
      clear hB htl
      rcases hex with hx1 | ⟨hx1, hx2⟩
      all_goals go_wp2
      all_goals
        go_ret
        exact ⟨_, ts, rfl, HTA.out, by rw [HTL.out]; exact hk4, HFINE.out, HB.out⟩
end Go.Proofs.YtmnblopbelppbaaDoor
