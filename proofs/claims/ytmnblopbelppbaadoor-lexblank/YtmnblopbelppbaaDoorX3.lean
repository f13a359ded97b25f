/-
  The walk of LexBlank.
-/
import Derived.Test.YtmnblopbelppbaaDoorX1
namespace Go.Proofs.YtmnblopbelppbaaDoor
open Go.ChangeShapes Go.WideShapes Go.ChangeAt Go.RowKit Go.Maps Go.Deep
set_option linter.unusedVariables false
set_option linter.unusedSimpArgs false
theorem skd_note (nt Y : List UInt8) (h : (10 : UInt8) ∉ nt) : skp true (nt ++ 10 :: Y) = nt.length + 1 + skp false Y := by
  induction nt with
  | nil => simp [skp]; omega
  | cons c nt ih =>
    have hc : ¬ c = 10 := fun e => h (by simp [e])
    have := ih (fun hm => h (by simp [hm]))
    simp [skp, hc, this]
    omega
theorem skd_gap (nt Y : List UInt8) (h : (10 : UInt8) ∉ nt) : skd (35 :: (nt ++ 10 :: 13 :: 32 :: Y)) = skd Y := by
  unfold skd
  have e : skp false (35 :: (nt ++ 10 :: 13 :: 32 :: Y)) = nt.length + 4 + skp false Y := by
    have := skd_note nt (13 :: 32 :: Y) h
    simp [skp] at this ⊢
    omega
  rw [e]
  have e2 : 35 :: (nt ++ 10 :: 13 :: 32 :: Y) = (35 :: nt ++ [10, 13, 32]) ++ Y := by simp
  rw [e2, List.drop_append]
  have e3 : (35 :: nt ++ [10, 13, 32]).length = nt.length + 4 := by simp
  rw [List.drop_of_length_le (by omega), e3]
  simp
theorem skd_9 (Y : List UInt8) : skd (9 :: Y) = skd Y := by
  unfold skd
  have : skp false (9 :: Y) = skp false Y + 1 := by simp [skp]
  rw [this, List.drop_succ_cons]
theorem skd_over : skd [32, 32, 35, 32, 111, 118, 101, 114] = [] := by kernel_rfl
theorem run_blank (N : Nat) {xs ys : List Tk} (hx : ∀ t ∈ xs, tchk t = 0) (hy : ∀ t ∈ ys, tchk t = 0) (nt : List UInt8) (h : (10 : UInt8) ∉ nt) :
    Run N (skd (9 :: (cat xs ++ 35 :: (nt ++ 10 :: 13 :: 32 :: (cat ys ++ [32, 32, 35, 32, 111, 118, 101, 114]))))) (xs ++ ys) 0 0 := by
  rw [skd_9]
  apply run_cat hx
  rw [skd_gap nt _ h]
  have := run_cat (N := N) (T := [32, 32, 35, 32, 111, 118, 101, 114]) (ts := []) (p := 0) (e := 0) hy (by rw [skd_over]; exact Run.done)
  rw [List.append_nil] at this
  exact this
theorem skd_none : skd [32, 35] = [] := by kernel_rfl
theorem run_none : Run 2 (skd [32, 35]) [] 0 0 := by rw [skd_none]; exact Run.done
theorem rd_one : rd [120, 35] = ⟨0, ⟨1, txt [120], 0⟩, 1⟩ := by kernel_rfl
theorem skd_one : skd [120, 35] = [120, 35] := by kernel_rfl
theorem skd_one2 : skd [35] = [] := by kernel_rfl
theorem run_one : Run 2 (skd [120, 35]) [⟨1, txt [120], 0⟩] 0 0 := by
  rw [skd_one]
  have := Run.step (N := 2) [120, 35] [] 0 0 (by simp) (by rw [rd_one]) (by rw [rd_one]; decide) (by rw [rd_one]; decide) (by rw [rd_one]; show Run 2 (skd [35]) [] 0 0; rw [skd_one2]; exact Run.done)
  rw [rd_one] at this
  exact this
theorem toks_take {w : World} {p : Option Addr} {c : Nat} {ts : List Tk} (h : TokensAt w (.slice p ts.length c) ts) (k : Nat) (hk : k ≤ ts.length) : TokensAt w (.slice p k k) (ts.take k) := by
  obtain ⟨p', cap, e, hc, hm, hp⟩ := h
  cases e
  have hl : (ts.take k).length = k := by rw [List.length_take]; omega
  refine ⟨p, k, by rw [hl], by omega, by omega, fun h0 => ?_⟩
  obtain ⟨g, off, e, hcell⟩ := hp (by omega)
  refine ⟨g, off, e, fun j hj => ?_⟩
  have hj2 : j < ts.length := by omega
  have := hcell j hj2
  simpa using this
theorem slice_from (pu : Option Addr) (n cu x : Nat) (hx : x ≤ n) (hn : n ≤ cu) : ∃ p c, (∀ W, (Instr.slice 22 (.slice pu n cu) (some (.int .i64 x)) none none).run Tryd.prog W = .ok (.slice p (n - x) c) W) ∧ (∀ W (ts : List Tk), ts.length = n → TokensAt W (.slice pu n cu) ts → TokensAt W (.slice p (n - x) c) (ts.drop x)) := by
  by_cases hc : cu = x
  · refine ⟨pu, 0, fun W => ?_, fun W ts hl h => ?_⟩
    · rw [run_slice_l (P := Tryd.prog) W 22 pu n cu Tryd.underlying22 .i64 x (by omega) (by omega)]
      simp [go_sem, sliced, hc]
    · have h0 : (ts.drop x).length = 0 := by rw [List.length_drop]; omega
      exact ⟨pu, 0, by rw [h0]; congr 1; omega, by omega, Nat.zero_le _, fun h1 => by omega⟩
  · refine ⟨pu.map (fun a => a.add (x * 3)), cu - x, fun W => ?_, fun W ts hl h => ?_⟩
    · rw [run_slice_l (P := Tryd.prog) W 22 pu n cu Tryd.underlying22 .i64 x (by omega) (by omega)]
      simp [go_sem, sliced, hc]
    · obtain ⟨p', cap, e, h1, h2, hp⟩ := h
      cases e
      have hd : (ts.drop x).length = ts.length - x := by rw [List.length_drop]
      refine ⟨_, cu - x, by rw [hd], by omega, by omega, fun h0 => ?_⟩
      obtain ⟨g, off, rfl, hcell⟩ := hp (by omega)
      refine ⟨g, off + x * 3, by simp [Addr.add_mid], fun j hj => ?_⟩
      have := hcell (x + j) (by omega)
      rw [show off + (x + j) * 3 = off + x * 3 + j * 3 by omega] at this
      simpa using this
set_option maxHeartbeats 4000000 in
theorem lexBlank_walk (v : Value) (l : List Pc) (nt : ByteArray) (at_ : Int) (w : World) (hv : PiecesAt w v l) (hw : ∀ p ∈ l, wfP p) (hat : wfI at_) (hM : Marks w) (hP : Pow w) :
    Calls Tryd.prog 7 #[v, .string nt, .int .i64 at_] w fun e w' => e = .returned (.bool true) ∧ Below w.heap.size w w' := by
  have H1 : Hid (Calls Tryd.prog 16 #[v] w fun e w' => ∃ u ts, e = .returned u ∧ TokensAt w' u ts ∧ ts.length ≤ 40 ∧ (∀ t ∈ ts, tchk t = 0) ∧ Below w.heap.size w w') := tokens_any v l w hv hw
  have HM : Hid (Marks w) := hM
  have HP : Hid (Pow w) := hP
  have HAT : Hid (wfI at_) := hat
  clear hv hw hM hP hat
  go_enter Tryd.func7, Tryd.ntmps7
  go_wp2_with fail
  refine H1.out.mono ?_
  rintro e w1 ⟨u, ts, rfl, hu, hl, hf, hb1⟩
  have HU : Hid (TokensAt w1 u ts) := hu
  obtain ⟨pu, cu, rfl, hcu, hcm, hcell⟩ := hu
  have HF : Hid (ts.length ≤ 40 ∧ ∀ t ∈ ts, tchk t = 0) := ⟨hl, hf⟩
  have HB1 : Hid (Below w.heap.size w w1) := hb1
  obtain ⟨x, hx, hX⟩ := picked_const at_ ((ts.length : Int) + 1) (ts.length + 1) (by omega) HAT.out (by omega) (by omega)
  have HX : Hid (∀ W, Calls Tryd.prog 18 #[.int .i64 at_, .int .i64 ((ts.length : Int) + 1)] W fun e w' => e = .returned (.int .i64 x) ∧ w' = W) := hX
  clear hf hb1 H1 hX hcell
  go_wp2_with (go_at_call 18; refine (HX.out _).mono ?_; rintro e w1 ⟨rfl, rfl⟩)
  have HT1 : Hid (∀ t ∈ ts.take x, tchk t = 0) := fun t ht => HF.out.2 t (List.mem_of_mem_take ht)
  have HL1 : Hid ((ts.take x).length ≤ 40 ∧ x ≤ ts.length) := ⟨by have := List.length_take_le x ts; have := List.length_take (i := x) (l := ts); omega, by omega⟩
  refine (join_fine _ (ts.take x) w1 (toks_take HU.out x (by omega)) (HM.out.below HB1.out) (HP.out.below HB1.out) (by have := HL1.out.1; omega) HT1.out).mono ?_
  rintro e w2 ⟨rfl, hb2⟩
  have HB2 : Hid (Below w.heap.size w w2) := below_trans HB1.out hb2 HB1.out.size
  have HU2 : Hid (TokensAt w2 (.slice pu ts.length cu) ts) := HU.out.below hb2
  clear hb2
  obtain ⟨p5, c5, hsl, hsub⟩ := slice_from pu ts.length cu x (by omega) hcu
  have HSUB : Hid (TokensAt w2 (.slice p5 (ts.length - x) c5) (ts.drop x)) := hsub w2 ts rfl HU2.out
  clear hsub
  go_wp2_with fail
  have HT2 : Hid (∀ t ∈ ts.drop x, tchk t = 0) := fun t ht => HF.out.2 t (List.mem_of_mem_drop ht)
  have HL2 : Hid ((ts.drop x).length ≤ 40) := by rw [List.length_drop]; exact Nat.le_trans (Nat.sub_le _ _) hl
  refine (join_fine _ (ts.drop x) w2 HSUB.out (HM.out.below HB2.out) (HP.out.below HB2.out) (by have := HL2.out; omega) HT2.out).mono ?_
  rintro e w3 ⟨rfl, hb3⟩
  have HB3 : Hid (Below w.heap.size w w3) := below_trans HB2.out hb3 HB2.out.size
  have HU3 : Hid (TokensAt w3 (.slice pu ts.length cu) ts) := HU2.out.below hb3
  clear hb3 hsl
  obtain ⟨i0, a1, a2, a3, a4⟩ := info_parts infoB
  have HI : Hid (Tryd.prog.info? 5 = some i0 ∧ i0.zero = some (.int .u8 0) ∧ i0.size = 1 ∧ i0.bytes = 1) := ⟨a1, a2, a3, a4⟩
  have z1 : (txt (cat (ts.take x))).size ≤ 920 := cat40 HL1.out.1 HT1.out
  have z2 : (txt (cat (ts.drop x))).size ≤ 920 := cat40 HL2.out HT2.out
  obtain ⟨A, hA⟩ : ∃ A, txt (cat (ts.take x)) = A := ⟨_, rfl⟩
  obtain ⟨D, hD⟩ : ∃ D, txt (cat (ts.drop x)) = D := ⟨_, rfl⟩
  have HAD : Hid (A.data.toList = cat (ts.take x) ∧ D.data.toList = cat (ts.drop x)) := ⟨by rw [← hA, txt_list], by rw [← hD, txt_list]⟩
  rw [hA] at z1
  rw [hD] at z2
  rw [hA, hD]
  clear a1 a2 a3 a4 hA hD hcu hcm
  go_wp2
  go_loopw [13, 14] (fun v i wr => ∃ (j : Nat) (bs : List UInt8), j ≤ nt.size ∧ j ≤ 60 ∧ i = .int .i64 (j : Nat) ∧ bs.length ≤ j ∧ (10 : UInt8) ∉ bs ∧ wr.ownsRow w3.heap.size 5 1 v bs.length (Lib.byteCells bs) ∧ Below w3.heap.size w3 wr) (fun _ i _ => 61 - (intOf i).toNat)
  case atStart => exact ⟨0, [], by omega, by omega, rfl, by simp, by simp, World.ownsRow_nil _ _ _ _, Below.refl _ _⟩
  case round =>
    obtain ⟨j, bs, hj, hj60, rfl, hbl, h10, hrow, hB⟩ := hrel
    obtain ⟨pv, cv, rfl⟩ := own_shape hrow
    by_cases hgo : j < nt.size ∧ j < 60
    · obtain ⟨hjs, hjt⟩ := hgo
      have HROW : Hid (wr.ownsRow w3.heap.size 5 1 (.slice pv bs.length cv) bs.length (Lib.byteCells bs)) := hrow
      obtain ⟨bl, hbl2⟩ : ∃ bl, bs.length = bl := ⟨_, rfl⟩
      rw [hbl2] at HROW hbl ⊢
      have HBL : Hid (bs.length = bl) := hbl2
      have H10 : Hid ((10 : UInt8) ∉ bs) := h10
      have HB : Hid (Below w3.heap.size w3 wr) := hB
      have i1 : (j : Int) < (nt.size : Int) := by omega
      have i2 : (j : Int) < 60 := by omega
      have e10 : nt[j] = 10 ↔ (nt[j].toNat : Int) = 10 := u8_eq _ 10 (by omega)
      clear hrow hbl2 h10 hB
      by_cases hq : (nt[j].toNat : Int) = 10
      · clear e10
        go_wp2
        go_roundw
        case rel => exact ⟨j + 1, bs, by omega, by omega, by go_num, by have := HBL.out; omega, H10.out, by rw [HBL.out]; exact HROW.out, HB.out⟩
        case measure => simp [intOf]; omega
      · have HNE : Hid (¬ nt[j] = 10) := fun h => hq (e10.1 h)
        have hqb : ((nt[j].toNat : Int) == 10) = false := by simpa using hq
        have hqn : ((nt[j].toNat : Int) != 10) = true := by simpa using hq
        clear e10
        go_wp2_with (at_builtin; go_loud (refine wpList_append_own_at _ (by rfl) _ _ 39 (by rfl) w3.heap.size 5 i0 (.int .u8 0) 1 1 Tryd.underlying39 HI.out.1 HI.out.2.1 HI.out.2.2.1 HI.out.2.2.2 rfl (by omega) (.slice pv bl cv) bl (Lib.byteCells bs) (by rfl) (HROW.out.alloc _) ⟨wr.heap.size, 0, none⟩ 1 1 [.int .u8 (nt[j].toNat : Int)] (by rfl) (by rfl) (World.news_of_block (heap_alloc_new _ _)) (by simp [Value.oneCell']) (by unfold maxLen; omega) (by omega) (by simp; have := HB.out.size; omega) ?_); intro v' w4 hown hgrow hiff hat; have HO : Hid (w4.ownsRow w3.heap.size 5 1 v' (bl + 1) (Lib.byteCells bs ++ [.int .u8 (nt[j].toNat : Int)])) := hown; have HB4 : Hid (Below w3.heap.size w3 w4) := (HB.out.alloc HB.out.size _).grown hgrow (by simp; have := HB.out.size; omega) (fun k hk => (HROW.out.lt k hk).1); obtain ⟨pq, cq, hvv⟩ := own_shape hown; subst hvv; clear hown hgrow hat hiff)
        go_roundw
        case rel => exact ⟨j + 1, bs ++ [nt[j]], by omega, by omega, by go_num, by rw [List.length_append, HBL.out]; simp; omega, fun hy => by
          rcases List.mem_append.1 hy with h | h
          · exact H10.out h
          · exact HNE.out (List.mem_singleton.1 h).symm, by rw [List.length_append, HBL.out]; simpa [Lib.byteCells] using HO.out, HB4.out⟩
        case measure => simp [intOf]; omega
    · have hex : decide ((j : Int) < (nt.size : Int)) = false ∨ (decide ((j : Int) < (nt.size : Int)) = true ∧ decide ((j : Int) < 60) = false) := by
        by_cases h : j < nt.size
        · right; simp; omega
        · left; simp; omega
      have hcv := conv_own hrow
      obtain ⟨y, hy⟩ : ∃ y, txt bs = y := ⟨_, rfl⟩
      rw [hy] at hcv
      have hyl : y.data.toList = bs := by rw [← hy, txt_list]
      have z3 : y.size ≤ 60 := by rw [← hy, txt_size]; omega
      have HB4 : Hid (Below w.heap.size w wr) := below_trans HB3.out hB HB3.out.size
      have HU4 : Hid (TokensAt wr (.slice pu ts.length cu) ts) := HU3.out.below hB
      have HCUT : Hid (∀ X : ByteArray, X = ⟨#[9]⟩ ++ A ++ ⟨#[35]⟩ ++ y ++ ⟨#[10, 13, 32]⟩ ++ D ++ ⟨#[32, 32, 35, 32, 111, 118, 101, 114]⟩ → Calls Tryd.prog 9 #[.string X] wr fun e w' => ∃ p c, e = .returned (.tuple #[.slice p ts.length c, .int .i64 0, .int .i64 0]) ∧ TokensAt w' (.slice p ts.length c) ts ∧ Below wr.heap.size wr w') := fun X hX => by
        have hXl : X.data.toList = 9 :: (cat (ts.take x) ++ 35 :: (bs ++ 10 :: 13 :: 32 :: (cat (ts.drop x) ++ [32, 32, 35, 32, 111, 118, 101, 114]))) := by
          rw [hX]
          simp only [cat_list, HAD.out.1, HAD.out.2, hyl]
          simp
        have hXs : X.size ≤ 3000 := by
          have : X.size = X.data.toList.length := by simp
          rw [this, hXl]
          have q1 := cat_len _ HT1.out
          have q2 := cat_len _ HT2.out
          have q3 := HL1.out.1
          have q4 := HL2.out
          simp only [List.length_cons, List.length_append, List.length_nil]
          omega
        have hr := run_blank X.size HT1.out HT2.out bs h10
        rw [List.take_append_drop, ← hXl] at hr
        exact cut_ok X wr ts (HM.out.below HB4.out) hXs hr (by omega)
      clear hrow hB h10 hy hyl
      rcases hex with hx1 | ⟨hx1, hx2⟩
      all_goals go_wp2_with fail
      all_goals
        refine (HCUT.out _ rfl).mono ?_
        rintro e w5 ⟨p6, c6, rfl, hv6, hb6⟩
        have HB5 : Hid (Below w.heap.size w w5) := below_trans HB4.out hb6 HB4.out.size
        have HU5 : Hid (TokensAt w5 (.slice pu ts.length cu) ts ∧ TokensAt w5 (.slice p6 ts.length c6) ts) := ⟨HU4.out.below hb6, hv6⟩
        clear hb6 hv6 hcv
        go_wp2_with fail
        refine (cut_ok ⟨#[32, 35]⟩ w5 [] (HM.out.below HB5.out) (by decide) run_none (by decide)).mono ?_
        rintro e w6 ⟨p7, c7, rfl, _, hb7⟩
        have HB6 : Hid (Below w.heap.size w w6) := below_trans HB5.out hb7 HB5.out.size
        have HU6 : Hid (TokensAt w6 (.slice pu ts.length cu) ts ∧ TokensAt w6 (.slice p6 ts.length c6) ts) := ⟨HU5.out.1.below hb7, HU5.out.2.below hb7⟩
        clear hb7
        go_wp2_with fail
        refine (cut_ok ⟨#[120, 35]⟩ w6 [⟨1, txt [120], 0⟩] (HM.out.below HB6.out) (by decide) run_one (by decide)).mono ?_
        rintro e w7 ⟨p8, c8, rfl, _, hb8⟩
        have HB7 : Hid (Below w.heap.size w w7) := below_trans HB6.out hb8 HB6.out.size
        have HU7 : Hid (TokensAt w7 (.slice pu ts.length cu) ts ∧ TokensAt w7 (.slice p6 ts.length c6) ts) := ⟨HU6.out.1.below hb8, HU6.out.2.below hb8⟩
        clear hb8
        go_wp2_with (go_at_call 17; refine (same_keep _ _ ts _ HU7.out.1 HU7.out.2).mono ?_; rintro e w8 ⟨rfl, q, rfl⟩)
        go_ret
        exact ⟨rfl, below_drawn HB7.out q⟩
end Go.Proofs.YtmnblopbelppbaaDoor
