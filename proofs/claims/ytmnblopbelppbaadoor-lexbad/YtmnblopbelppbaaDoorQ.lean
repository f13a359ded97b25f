/-
  Tokens of raw things.
-/
import Derived.Test.YtmnblopbelppbaaDoorP
import Derived.Laws.IdiomStrings
namespace Go.Proofs.YtmnblopbelppbaaDoor
open Go.ChangeShapes Go.WideShapes Go.ChangeAt Go.RowKit Go.Maps Go.Deep
set_option linter.unusedVariables false
set_option linter.unusedSimpArgs false
def pk (n m : Int) : Int := if 0 ≤ n then n % m else -((n + 1).tmod m)
theorem pk_bd (n m : Int) (hm : 0 < m) : 0 ≤ pk n m ∧ pk n m < m := by
  unfold pk
  split
  · exact ⟨Int.emod_nonneg n (by omega), Int.emod_lt_of_pos n hm⟩
  · have h2 := Int.tmod_lt_of_pos (-(n + 1)) hm
    have h1 := Int.tmod_nonneg m (by omega : 0 ≤ -(n + 1))
    rw [Int.neg_tmod] at h1 h2
    omega
theorem picked_any (n m : Int) (w : World) (hn1 : -9223372036854775808 ≤ n) (hn2 : n ≤ 9223372036854775807) (hm : 0 < m) (hm2 : m ≤ 1125899906842624) :
    Calls Tryd.prog 18 #[.int .i64 n, .int .i64 m] w fun e w' => e = .returned (.int .i64 (pk n m)) ∧ w' = w := by
  have hm0 : ¬ m = 0 := by omega
  unfold pk
  by_cases h : 0 ≤ n
  · simp only [h, if_true]
    go_enter Tryd.func18, Tryd.ntmps18
    go_wp2
    go_ret
    exact ⟨rfl, rfl⟩
  · have h' : n < 0 := by omega
    simp only [h, if_false]
    go_enter Tryd.func18, Tryd.ntmps18
    go_wp2
    go_ret
    exact ⟨rfl, rfl⟩
theorem picked_const (n M : Int) (m : Nat) (hM : M = m) (hn : wfI n) (hm : 0 < m) (hm2 : m ≤ 1125899906842624) : ∃ x : Nat, x < m ∧ ∀ W, Calls Tryd.prog 18 #[.int .i64 n, .int .i64 M] W fun e w' => e = .returned (.int .i64 x) ∧ w' = W := by
  subst hM
  have hb := pk_bd n m (by omega)
  obtain ⟨k, hk⟩ := Int.eq_ofNat_of_zero_le hb.1
  refine ⟨k, by omega, fun W => ?_⟩
  have := picked_any n m W hn.1 hn.2 (by omega) (by omega)
  rw [hk] at this
  exact this
/-- What lies in memory behind the first steps of Token: what came in, boxed, and the token to be. -/
structure Tb (w W : World) (s : ByteArray) (n : Int) : Prop where
  size : w.heap.size + 2 ≤ W.heap.size
  below : Below w.heap.size w W
  c1 : W.cell? ⟨w.heap.size, 1, none⟩ = some (.int .i64 n)
  c2 : W.cell? ⟨w.heap.size, 2, none⟩ = some (.string s)
  r0 : W.cell? ⟨w.heap.size + 1, 0, none⟩ = some (.int .i64 0)
  r1 : W.cell? ⟨w.heap.size + 1, 1, none⟩ = some (.string ⟨#[]⟩)
  r2 : W.cell? ⟨w.heap.size + 1, 2, none⟩ = some (.int .i64 0)
  f0 : W.frozen? ⟨w.heap.size + 1, 0, none⟩ = false
  f1 : W.frozen? ⟨w.heap.size + 1, 1, none⟩ = false
  f2 : W.frozen? ⟨w.heap.size + 1, 2, none⟩ = false
theorem Tb.on {w W W' : World} {s : ByteArray} {n : Int} (h : Tb w W s n) (b : Below (w.heap.size + 2) W W') : Tb w W' s n :=
  ⟨Nat.le_trans h.size b.size, below_trans h.below b (by omega), (b.cell (p := ⟨w.heap.size, 1, none⟩) (by simp)).trans h.c1, (b.cell (p := ⟨w.heap.size, 2, none⟩) (by simp)).trans h.c2,
    (b.cell (p := ⟨w.heap.size + 1, 0, none⟩) (by simp)).trans h.r0, (b.cell (p := ⟨w.heap.size + 1, 1, none⟩) (by simp)).trans h.r1, (b.cell (p := ⟨w.heap.size + 1, 2, none⟩) (by simp)).trans h.r2,
    (b.frozen (p := ⟨w.heap.size + 1, 0, none⟩) (by simp)).trans h.f0, (b.frozen (p := ⟨w.heap.size + 1, 1, none⟩) (by simp)).trans h.f1, (b.frozen (p := ⟨w.heap.size + 1, 2, none⟩) (by simp)).trans h.f2⟩
theorem Tb.new (w : World) (k n : Int) (s : ByteArray) : Tb w ((w.alloc (.cells #[.int .i64 k, .int .i64 n, .string s] 66)).alloc (.cells #[.int .i64 0, .string ⟨#[]⟩, .int .i64 0] 29)) s n := by
  refine ⟨by simp, ((Below.refl _ _).alloc (Nat.le_refl _) _).alloc (by simp) _, ?_, ?_, ?_, ?_, ?_, ?_, ?_, ?_⟩ <;> simp [go_sem]
theorem res1 {P : Program} {fn : Func} {p : Tmp} {ty : TypeId} (h : fn.results = #[.cell p ty]) (tmps : Array Value) (w : World) (g : Nat) (cs : List Value) (d : TypeDesc)
    (hp : tmps.getD p undef = .pointer (some ⟨g, 0, none⟩)) (hc : w.rangeAt g 0 cs) (hu : P.underlying ty = some d) (hd : d.isRow = true) (hi : (P.info? ty).map (·.size) = some cs.length) :
    (results fn tmps).run P w = .ok (.agg cs.toArray) w := by
  have hp' : tmps[p]?.getD undef = .pointer (some ⟨g, 0, none⟩) := by simpa using hp
  simp [results, h, hp', asAddr, run_loadVar_mid w g 0 ty cs d hc hu hd hi]
theorem conv_own {w : World} {base : Nat} {v : Value} {bs : List UInt8} (h : w.ownsRow base 5 1 v bs.length (Lib.byteCells bs)) :
    (convert 39 9 v).run Tryd.prog w = .ok (.string (txt bs)) w := by
  rcases h.2 with ⟨rfl, h0⟩ | ⟨g, cap, cur, rfl, _, h2, _⟩
  · have e : bs = [] := List.eq_nil_of_length_eq_zero h0
    subst e
    rw [run_convert_bytes_string w 39 9 5 none 0 0 Tryd.underlying39 Tryd.underlying5 Tryd.underlying9]
    simp [Conv.bytesToString]
    rfl
  · exact run_convert_bytes_back w 39 9 5 ⟨g, 0, none⟩ cap bs Tryd.underlying39 Tryd.underlying5 Tryd.underlying9 (fun j hj => by
      rw [Addr.add_mid, Nat.zero_add, h.cellAt _ (by omega)]
      simp [Lib.byteCells, hj])
theorem tchk_num (x : Nat) (h : x ≤ 1125899906842624) : tchk ⟨2, txt [], x⟩ = 0 := by
  unfold tchk
  simp only
  rw [if_neg (by omega)]
  simp only [if_true, txt_list]
  rw [if_neg (by simp), if_neg (by omega)]
theorem tchk_mark (x : Nat) (hx : x < 17) : tchk ⟨4, txt (mkl.getD x []), 0⟩ = 0 := by
  unfold tchk
  simp only [txt_list]
  rw [if_neg (by omega), if_neg (by omega), if_neg (by omega)]
  simp only [if_true]
  rw [if_neg]
  rintro (h | h)
  · exact h rfl
  · exact h (at_in x hx)
theorem tchk_str (bs : List UInt8) (h : (34 : UInt8) ∉ bs) (hl : bs.length ≤ 20) : tchk ⟨3, txt bs, 0⟩ = 0 := by
  unfold tchk
  simp only [txt_list, txt_size]
  rw [if_neg (by omega), if_neg (by omega)]
  simp only [if_true]
  rw [if_neg, if_neg (by omega)]
  rintro (h2 | h2)
  · exact h2 rfl
  · exact h ((ib_iff _ _).1 h2)
theorem tchk_word (bs : List UInt8) (h : ∀ c ∈ bs, lw c = true) (h1 : 1 ≤ bs.length) (hl : bs.length ≤ 10) : tchk ⟨1, txt bs, 0⟩ = 0 := by
  unfold tchk
  simp only [if_true]
  rw [if_neg (by simp)]
  unfold nchk
  rw [txt_size, if_neg (by omega)]
  refine fst_all fun k hk => ?_
  unfold sgn
  rw [if_pos]
  left
  unfold byteN
  rw [txt_list, List.getD_eq_getElem?_getD, List.getElem?_eq_getElem hk]
  have := h bs[k] (List.getElem_mem hk)
  unfold lw at this
  unfold isL
  simp at this ⊢
  omega
theorem own_bytes {w wr W w3 : World} {u v : Value} {n base : Nat} {xs ys : List Value} (h : Below base w W) (hg : W.grownBy w3 u.ownBlock) (hs : base ≤ W.heap.size) (hr : W.ownsRow base 5 1 u n xs) : Below base w w3 :=
  h.grown hg hs (fun k hk => (hr.lt k hk).1)
set_option maxHeartbeats 4000000 in
theorem token_1 (k n : Int) (s : ByteArray) (w : World) (hn : wfI n) (hP : ∀ W, Calls Tryd.prog 18 #[.int .i64 k, .int .i64 4] W fun e w' => e = .returned (.int .i64 1) ∧ w' = W) :
    Calls Tryd.prog 37 #[.agg #[.int .i64 k, .int .i64 n, .string s]] w fun e w' => ∃ t, e = .returned (tV t) ∧ tchk t = 0 ∧ Below w.heap.size w w' := by
  have HP : Hid (∀ W, Calls Tryd.prog 18 #[.int .i64 k, .int .i64 4] W fun e w' => e = .returned (.int .i64 1) ∧ w' = W) := hP
  obtain ⟨x, hx, hX⟩ := picked_const n 1125899906842624 1125899906842624 rfl hn (by omega) (by omega)
  have HX : Hid (∀ W, Calls Tryd.prog 18 #[.int .i64 n, .int .i64 1125899906842624] W fun e w' => e = .returned (.int .i64 x) ∧ w' = W) := hX
  have HT : Hid (tchk ⟨2, txt [], x⟩ = 0) := tchk_num x (by omega)
  clear hP hX hn hx
  go_enter Tryd.func37, Tryd.ntmps37
  go_wp2_with fail
  refine (HP.out _).mono ?_
  rintro e W0 ⟨rfl, hW0⟩
  have hT : Tb w W0 s n := by rw [hW0]; exact Tb.new w k n s
  have HTB : Hid (Tb w W0 s n) := hT
  have c1 := hT.c1; have c2 := hT.c2; have r0 := hT.r0; have r1 := hT.r1; have r2 := hT.r2; have f0 := hT.f0; have f1 := hT.f1; have f2 := hT.f2
  clear hW0 hT
  go_wp2_with (go_at_call 18; refine (HX.out _).mono ?_; rintro e W0 ⟨rfl, rfl⟩)
  refine bodyPost_ret (res1 Tryd.results37 _ _ (w.heap.size + 1) _ _ (by rfl) (range3 r0 r1 r2) Tryd.underlying29 rfl (by kernel_rfl)) rfl ?_
  exact ⟨⟨2, txt [], x⟩, rfl, HT.out, below3 HTB.out.below _ (by omega)⟩
set_option maxHeartbeats 4000000 in
theorem token_3 (k n : Int) (s : ByteArray) (w : World) (hn : wfI n) (hP : ∀ W, Calls Tryd.prog 18 #[.int .i64 k, .int .i64 4] W fun e w' => e = .returned (.int .i64 3) ∧ w' = W) :
    Calls Tryd.prog 37 #[.agg #[.int .i64 k, .int .i64 n, .string s]] w fun e w' => ∃ t, e = .returned (tV t) ∧ tchk t = 0 ∧ Below w.heap.size w w' := by
  have HP : Hid (∀ W, Calls Tryd.prog 18 #[.int .i64 k, .int .i64 4] W fun e w' => e = .returned (.int .i64 3) ∧ w' = W) := hP
  obtain ⟨x, hx, hX⟩ := picked_const n 17 17 rfl hn (by omega) (by omega)
  have HX : Hid (∀ W, Calls Tryd.prog 18 #[.int .i64 n, .int .i64 17] W fun e w' => e = .returned (.int .i64 x) ∧ w' = W) := hX
  have HT : Hid (tchk ⟨4, txt (mkl.getD x []), 0⟩ = 0) := tchk_mark x hx
  clear hP hX hn
  go_enter Tryd.func37, Tryd.ntmps37
  go_wp2_with fail
  refine (HP.out _).mono ?_
  rintro e W0 ⟨rfl, hW0⟩
  have hT : Tb w W0 s n := by rw [hW0]; exact Tb.new w k n s
  have HTB : Hid (Tb w W0 s n) := hT
  have c1 := hT.c1; have c2 := hT.c2
  have hne : W0.heap.size ≠ w.heap.size := by have := hT.size; omega
  have hlt : w.heap.size < W0.heap.size := by have := hT.size; omega
  clear hW0 hT
  go_wp2_with fail
  refine (HX.out _).mono ?_
  rintro e W1 ⟨rfl, hW1⟩
  have hb1 : Below (w.heap.size + 2) W0 W1 := by rw [hW1]; exact (Below.refl _ _).alloc HTB.out.size _
  have hT1 : Tb w W1 s n := HTB.out.on hb1
  have hcx : W1.cell? ⟨W0.heap.size, x, none⟩ = some (.string (txt (mkl.getD x []))) := by
    rw [hW1]
    show (W0.alloc (.cells mkA 9)).cell? ⟨W0.heap.size, x, none⟩ = _
    rw [cell_of_row _ _ x mkA 9 (0, 0) (heap_alloc_new _ _)]
    exact mkA_at x hx
  obtain ⟨m, hm⟩ : ∃ m, txt (mkl.getD x []) = m := ⟨_, rfl⟩
  rw [hm] at hcx HT
  have HTB1 : Hid (Tb w W1 s n) := hT1
  have r0 := hT1.r0; have r1 := hT1.r1; have r2 := hT1.r2; have f0 := hT1.f0; have f1 := hT1.f1; have f2 := hT1.f2
  have i1 : (0 : Int) ≤ (x : Int) := by omega
  have i2 : (x : Int) < 17 := by omega
  clear hW1 hb1 hT1 hm c1 c2 hne hlt
  go_wp2
  refine bodyPost_ret (res1 Tryd.results37 _ _ (w.heap.size + 1) _ _ (by rfl) (range3 r0 r1 r2) Tryd.underlying29 rfl (by kernel_rfl)) rfl ?_
  exact ⟨⟨4, m, 0⟩, rfl, HT.out, below3 HTB1.out.below _ (by omega)⟩
theorem conv_x (W : World) : (convert 39 9 (.slice (some ⟨W.heap.size, 0, none⟩) 1 1)).run Tryd.prog (W.alloc (.cells #[.int .u8 120] 5)) = .ok (.string (txt [120])) (W.alloc (.cells #[.int .u8 120] 5)) :=
  run_convert_bytes_back _ 39 9 5 ⟨W.heap.size, 0, none⟩ 1 [120] Tryd.underlying39 Tryd.underlying5 Tryd.underlying9 (fun j hj => by
    obtain rfl : j = 0 := by simpa using hj
    rw [Addr.add_mid]
    simp [go_sem])
set_option maxHeartbeats 8000000 in
theorem token_0 (k n : Int) (s : ByteArray) (w : World) (hP : ∀ W, Calls Tryd.prog 18 #[.int .i64 k, .int .i64 4] W fun e w' => e = .returned (.int .i64 0) ∧ w' = W) :
    Calls Tryd.prog 37 #[.agg #[.int .i64 k, .int .i64 n, .string s]] w fun e w' => ∃ t, e = .returned (tV t) ∧ tchk t = 0 ∧ Below w.heap.size w w' := by
  have HP : Hid (∀ W, Calls Tryd.prog 18 #[.int .i64 k, .int .i64 4] W fun e w' => e = .returned (.int .i64 0) ∧ w' = W) := hP
  obtain ⟨i0, a1, a2, a3, a4⟩ := info_parts infoB
  have HI : Hid (Tryd.prog.info? 5 = some i0 ∧ i0.zero = some (.int .u8 0) ∧ i0.size = 1 ∧ i0.bytes = 1) := ⟨a1, a2, a3, a4⟩
  clear hP a1 a2 a3 a4
  go_enter Tryd.func37, Tryd.ntmps37
  go_wp2_with fail
  refine (HP.out _).mono ?_
  rintro e W0 ⟨rfl, hW0⟩
  have hT : Tb w W0 s n := by rw [hW0]; exact Tb.new w k n s
  have HTB : Hid (Tb w W0 s n) := hT
  clear hW0 hT
  go_wp2
  go_loopw [3, 4] (fun v i wr => ∃ (j : Nat) (bs : List UInt8), j ≤ s.size ∧ j ≤ 10 ∧ i = .int .i64 (j : Nat) ∧ bs.length = j ∧ (∀ c ∈ bs, lw c = true) ∧ wr.ownsRow (w.heap.size + 2) 5 1 v bs.length (Lib.byteCells bs) ∧ Below (w.heap.size + 2) W0 wr) (fun _ i _ => 11 - (intOf i).toNat)
  case atStart => exact ⟨0, [], by omega, by omega, rfl, rfl, by simp, World.ownsRow_nil _ _ _ _, Below.refl _ _⟩
  case round =>
    obtain ⟨j, bs, hj, hj10, rfl, hbl, hlw, hrow, hB⟩ := hrel
    by_cases hgo : j < s.size ∧ j < 10
    · obtain ⟨hjs, hjt⟩ := hgo
      have hT := HTB.out.on hB
      have c2 := hT.c2
      have HSZ : Hid (w.heap.size + 2 ≤ wr.heap.size) := hT.size
      have HROW : Hid (wr.ownsRow (w.heap.size + 2) 5 1 _ bs.length (Lib.byteCells bs)) := hrow
      obtain ⟨pu, cu, rfl⟩ := own_shape hrow
      obtain ⟨bl, hbl2⟩ : ∃ bl, bs.length = bl := ⟨_, rfl⟩
      rw [hbl2] at HROW hbl ⊢
      have HBL : Hid (bs.length = bl) := hbl2
      have HLW : Hid (∀ c ∈ bs, lw c = true) := hlw
      have HB : Hid (Below (w.heap.size + 2) W0 wr) := hB
      obtain ⟨c, hc⟩ : ∃ c : UInt8, c = UInt8.ofNat (97 + s[j].toNat % 26) := ⟨_, rfl⟩
      have hcn : (c.toNat : Int) = 97 + (s[j].toNat : Int) % 26 := by
        rw [hc, UInt8.toNat_ofNat']
        omega
      have HCL : Hid (lw c = true) := by
        have : lw c = true := by unfold lw; simp; omega
        exact this
      have i1 : (j : Int) < (s.size : Int) := by omega
      have i2 : (j : Int) < 10 := by omega
      clear hrow hbl2 hlw hB hT hc
      subst hbl
      have HCN : Hid ((c.toNat : Int) = 97 + (s[bl].toNat : Int) % 26) := hcn
      clear hcn
      go_wp2_with (at_builtin; go_loud (refine wpList_append_own_at _ (by rfl) _ _ 39 (by rfl) (w.heap.size + 2) 5 i0 (.int .u8 0) 1 1 Tryd.underlying39 HI.out.1 HI.out.2.1 HI.out.2.2.1 HI.out.2.2.2 rfl (by omega) (.slice pu bl cu) bl (Lib.byteCells bs) (by rfl) (HROW.out.alloc _) ⟨wr.heap.size, 0, none⟩ 1 1 [.int .u8 (97 + (s[bl].toNat : Int) % 26)] (by rfl) (by rfl) (World.news_of_block (heap_alloc_new _ _)) (by simp [Value.oneCell']) (by unfold maxLen; omega) (by omega) (by simp; have := HSZ.out; omega) ?_); intro v' w3 hown hgrow hiff hat; have HO : Hid (w3.ownsRow (w.heap.size + 2) 5 1 v' (bl + 1) (Lib.byteCells bs ++ [.int .u8 (c.toNat : Int)])) := by { rw [HCN.out]; exact hown }; have HB3 : Hid (Below (w.heap.size + 2) W0 w3) := (HB.out.alloc (by have := HSZ.out; omega) _).grown hgrow (by simp; have := HSZ.out; omega) (fun k hk => (HROW.out.lt k hk).1); obtain ⟨pv, cv, hvv⟩ := own_shape hown; subst hvv; clear hown hgrow hat hiff)
      go_roundw
      case rel => exact ⟨bl + 1, bs ++ [c], by omega, by omega, by go_num, by rw [List.length_append, HBL.out]; rfl, fun y hy => by
        rcases List.mem_append.1 hy with h | h
        · exact HLW.out y h
        · rw [List.mem_singleton.1 h]; exact HCL.out, by rw [List.length_append, HBL.out]; simpa [Lib.byteCells] using HO.out, HB3.out⟩
      case measure => simp [intOf]; omega
    · have hex : decide ((j : Int) < (s.size : Int)) = false ∨ (decide ((j : Int) < (s.size : Int)) = true ∧ decide ((j : Int) < 10) = false) := by
        by_cases h : j < s.size
        · right; simp; omega
        · left; simp; omega
      obtain ⟨pu, cu, rfl⟩ := own_shape hrow
      rw [hbl] at hrow ⊢
      by_cases hj0 : j = 0
      · subst hj0
        have hb0 : bs = [] := List.eq_nil_of_length_eq_zero hbl
        subst hb0
        have hT := HTB.out.on hB
        have HTB1 : Hid (Tb w wr s n) := hT
        have c2 := hT.c2
        have hne : wr.heap.size ≠ w.heap.size + 1 := by have := hT.size; omega
        have hcv : ∀ W : World, (convert 39 9 (.slice (some ⟨W.heap.size, 0, none⟩) 1 1)).run Tryd.prog (W.alloc (.cells #[.int .u8 120] 5)) = .ok (.string (txt [120])) (W.alloc (.cells #[.int .u8 120] 5)) := conv_x
        have HT : Hid (tchk ⟨1, txt [120], 0⟩ = 0) := tchk_word [120] (by decide) (by decide) (by decide)
        have hr0 : ∀ o, (wr.alloc o).cell? ⟨w.heap.size + 1, 0, none⟩ = some (.int .i64 0) := fun o => ((below_new wr o).cell (p := ⟨w.heap.size + 1, 0, none⟩) (by have := hT.size; simp; omega)).trans hT.r0
        have hr1 : ∀ o, (wr.alloc o).cell? ⟨w.heap.size + 1, 1, none⟩ = some (.string ⟨#[]⟩) := fun o => ((below_new wr o).cell (p := ⟨w.heap.size + 1, 1, none⟩) (by have := hT.size; simp; omega)).trans hT.r1
        have hr2 : ∀ o, (wr.alloc o).cell? ⟨w.heap.size + 1, 2, none⟩ = some (.int .i64 0) := fun o => ((below_new wr o).cell (p := ⟨w.heap.size + 1, 2, none⟩) (by have := hT.size; simp; omega)).trans hT.r2
        have hf0 : ∀ o, (wr.alloc o).frozen? ⟨w.heap.size + 1, 0, none⟩ = false := fun o => ((below_new wr o).frozen (p := ⟨w.heap.size + 1, 0, none⟩) (by have := hT.size; simp; omega)).trans hT.f0
        have hf1 : ∀ o, (wr.alloc o).frozen? ⟨w.heap.size + 1, 1, none⟩ = false := fun o => ((below_new wr o).frozen (p := ⟨w.heap.size + 1, 1, none⟩) (by have := hT.size; simp; omega)).trans hT.f1
        have hf2 : ∀ o, (wr.alloc o).frozen? ⟨w.heap.size + 1, 2, none⟩ = false := fun o => ((below_new wr o).frozen (p := ⟨w.heap.size + 1, 2, none⟩) (by have := hT.size; simp; omega)).trans hT.f2
        clear hT hrow hB
        have hx1 : ¬ (0 : Int) < (s.size : Int) := by omega
        have hx2 : ¬ (0 < s.size) := by omega
        clear hex
        go_wp2
        all_goals
         refine bodyPost_ret (res1 Tryd.results37 _ _ (w.heap.size + 1) _ _ (by rfl) (range3 (hr0 _) (hr1 _) (hr2 _)) Tryd.underlying29 rfl (by kernel_rfl)) rfl ?_
         exact ⟨⟨1, txt [120], 0⟩, rfl, HT.out, below3 (HTB1.out.below.alloc HTB1.out.below.size _) _ (by omega)⟩
      · have hj0b : decide ((j : Int) = 0) = false := by simp; omega
        have hj0c : ((j : Int) == 0) = false := by simp; omega
        rw [← hbl] at hrow
        have hcv := conv_own hrow
        rw [hbl] at hcv
        obtain ⟨y, hy⟩ : ∃ y, txt bs = y := ⟨_, rfl⟩
        rw [hy] at hcv
        have hT := HTB.out.on hB
        have HTB1 : Hid (Tb w wr s n) := hT
        have c2 := hT.c2; have r0 := hT.r0; have r1 := hT.r1; have r2 := hT.r2; have f0 := hT.f0; have f1 := hT.f1; have f2 := hT.f2
        have HT : Hid (tchk ⟨1, y, 0⟩ = 0) := by rw [← hy]; exact tchk_word bs hlw (by omega) (by omega)
        clear hT hrow hB hy
        rcases hex with hx1 | ⟨hx1, hx2⟩
        all_goals go_wp2
        all_goals
         refine bodyPost_ret (res1 Tryd.results37 _ _ (w.heap.size + 1) _ _ (by rfl) (range3 r0 r1 r2) Tryd.underlying29 rfl (by kernel_rfl)) rfl ?_
         exact ⟨⟨1, y, 0⟩, rfl, HT.out, below3 HTB1.out.below _ (by omega)⟩
end Go.Proofs.YtmnblopbelppbaaDoor
