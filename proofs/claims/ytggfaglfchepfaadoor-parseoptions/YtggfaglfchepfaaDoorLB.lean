/-
  A strings.Builder of the call's own: bytes and texts are written to it. What show and Join make of tokens. What is joined is cut into the same tokens: in plain words.
-/
import Derived.Test.YtggfaglfchepfaaDoorO
import Derived.Test.YtggfaglfchepfaaDoorSh
import Derived.Test.YtggfaglfchepfaaDoorK
import Derived.Test.YtggfaglfchepfaaDoorL
import Derived.Test.YtggfaglfchepfaaDoorFr
import Derived.Test.YtggfaglfchepfaaDoorU
namespace Go.Proofs.YtggfaglfchepfaaDoor
open Go.ChangeShapes Go.WideShapes Go.ChangeAt Go.RowKit Go.Maps Go.Deep
set_option linter.unusedVariables false
set_option linter.unusedSimpArgs false
abbrev Bld (B b : Nat) (l : List UInt8) (w : World) : Prop := Lib.IsBuilderF 77 5 B b (Lib.byteCells l) w
abbrev BldU (B b : Nat) (l : List UInt8) (w : World) : Prop := Lib.BuilderAtF 77 5 B b (.pointer (some ⟨b, 0, none⟩)) (Lib.byteCells l) w
theorem bSize : (Tryd.prog.info? 77).map (·.size) = some 2 := by kernel_rfl
theorem bLies : liesAt Tryd.prog Tryd.prog.depth 77 (2 / Tryd.prog.cellsOf 77) 0 77 1 = true := by kernel_rfl
set_option maxHeartbeats 2000000 in
set_option maxRecDepth 100000 in
theorem bcheck_new (b : Nat) (w : World) (h0 : w.cell? ⟨b, 0, none⟩ = some (.pointer none)) (hsh : w.shape? b = some (77, 2)) (hfz : w.frozen? ⟨b, 0, none⟩ = false) :
    Calls Tryd.prog 57 #[.pointer (some ⟨b, 0, none⟩)] w fun e w' => e = .returned (.tuple #[]) ∧ w' = w.setCell ⟨b, 0, none⟩ (.pointer (some ⟨b, 0, none⟩)) := by
  obtain ⟨j, hj, hjs⟩ := Option.map_eq_some_iff.1 bSize
  have u1 := Lib.run_to_unsafe (P := Tryd.prog) w ⟨b, 0, none⟩ Tryd.underlying74 Tryd.underlying148 hj (by rw [hjs]; decide) hsh (Nat.zero_lt_succ 1)
  have u3 := Lib.run_from_unsafe (P := Tryd.prog) w ⟨b, 0, none⟩ Tryd.underlying148 Tryd.underlying74 hj hsh bLies
  have u2 : ∀ W, (callFunc 93 #[.pointer (some ⟨b, 0, none⟩)]).run Tryd.prog W = .ok (.value (.pointer (some ⟨b, 0, none⟩))) W := fun W => by
    rw [run_callFunc_extern Tryd.func93 (by kernel_rfl) (by kernel_rfl) (by kernel_rfl) (e := Extern.AbiNoEscape.same) (by kernel_rfl), Lib.run_noEscape]
    rfl
  go_enter Tryd.func57, Tryd.ntmps57
  go_wp2
  go_returns
  exact ⟨rfl, rfl⟩
set_option maxHeartbeats 2000000 in
theorem bcheck_used (b : Nat) (w : World) (h0 : w.cell? ⟨b, 0, none⟩ = some (.pointer (some ⟨b, 0, none⟩))) :
    Calls Tryd.prog 57 #[.pointer (some ⟨b, 0, none⟩)] w fun e w' => e = .returned (.tuple #[]) ∧ w' = w := by
  obtain ⟨j, hj, hjs⟩ := Option.map_eq_some_iff.1 bSize
  have u1 := Lib.run_neq_ptr_same (P := Tryd.prog) w ⟨b, 0, none⟩ Tryd.underlying74 hj
  clear hj hjs
  go_enter Tryd.func57, Tryd.ntmps57
  go_wp2
  go_returns
  exact ⟨rfl, rfl⟩
theorem bcheck_any (B b : Nat) (l : List UInt8) (w : World) (h : Bld B b l w) :
    Calls Tryd.prog 57 #[.pointer (some ⟨b, 0, none⟩)] w fun e w' => e = .returned (.tuple #[]) ∧ BldU B b l w' ∧ Below B w w' := by
  rcases h with h | h
  · refine (bcheck_new b w h.cell0 h.shape h.frozen0).mono ?_
    rintro e w' ⟨rfl, rfl⟩
    exact ⟨rfl, h.used _, (Below.refl B w).setCell (p := ⟨b, 0, none⟩) h.1 _⟩
  · refine (bcheck_used b w h.cell0).mono ?_
    rintro e w' ⟨rfl, rfl⟩
    exact ⟨rfl, h, Below.refl B _⟩
theorem infoB : (Tryd.prog.info? 5).map (fun i => (i.zero, i.size, i.bytes)) = some (some (.int .u8 0), 1, 1) := by kernel_rfl
theorem lt_of_heap {w : World} {b : Nat} {o : Obj} (h : w.heap[b]? = some o) : b < w.heap.size := (Array.getElem?_eq_some_iff.1 h).1
set_option maxHeartbeats 2000000 in
theorem writeString_any (B b : Nat) (l : List UInt8) (x : ByteArray) (w : World) (h : Bld B b l w) (hl : l.length + x.size ≤ 140737488355328) (hBw : B ≤ w.heap.size) :
    Calls Tryd.prog 24 #[.pointer (some ⟨b, 0, none⟩), .string x] w fun e w' => e = .returned (.tuple #[.int .i64 x.size, .nilIface]) ∧ Bld B b (l ++ x.data.toList) w' ∧ Below B w w' := by
  obtain ⟨i0, hi, hz0, hz1, hz2⟩ := info_parts infoB
  have HI : Hid (Tryd.prog.info? 5 = some i0 ∧ i0.zero = some (.int .u8 0) ∧ i0.size = 1 ∧ i0.bytes = 1) := ⟨hi, hz0, hz1, hz2⟩
  have HC : Hid (∀ W, W = w → Calls Tryd.prog 57 #[.pointer (some ⟨b, 0, none⟩)] W fun e w' => e = .returned (.tuple #[]) ∧ BldU B b l w' ∧ Below B w w') := fun W hW => by subst hW; exact bcheck_any B b l W h
  have HL : Hid (l.length + x.size ≤ 140737488355328) := hl
  have HBW : Hid (B ≤ w.heap.size) := hBw
  clear hi hz0 hz1 hz2 h hl hBw
  go_enter Tryd.func24, Tryd.ntmps24
  go_wp2_with (go_at_call 57; refine (HC.out _ rfl).mono ?_)
  rintro e w1 ⟨rfl, h1, hb1⟩
  obtain ⟨hB, v, hbk, hown, hne⟩ := h1
  have c1 : w1.cell? ⟨b, 1, none⟩ = some v := by rw [Lib.cell_of_heap hbk]; rfl
  rw [Lib.byteCells_length] at hown
  have HO : Hid (w1.ownsRowF B 5 1 v l.length (Lib.byteCells l)) := hown
  have HK : Hid (w1.heap[b]? = some (.cells #[.pointer (some ⟨b, 0, none⟩), v] 77 (0, 0)) ∧ v.ownBlock ≠ some b ∧ B ≤ b) := ⟨hbk, hne, hB⟩
  have HB1 : Hid (Below B w w1) := hb1
  obtain ⟨pu, nu, cu, rfl⟩ : ∃ p n c, v = .slice p n c := by
    rcases hown.2 with ⟨hv, _⟩ | ⟨g, cap, cur, fz, hv, _⟩
    · exact ⟨_, _, _, hv⟩
    · exact ⟨_, _, _, hv⟩
  clear hbk hown hne hB hb1 HC
  go_wp2_with (at_builtin; go_loud (refine Lib.wpList_append_own_stringF _ rfl _ _ 75 9 rfl B 5 i0 Tryd.underlying75 Tryd.underlying9 HI.out.1 HI.out.2.1 HI.out.2.2.1 HI.out.2.2.2 _ _ _ rfl HO.out x rfl (by unfold maxLen; have := HL.out; omega) (by have := HL.out; omega) (by have := HB1.out.size; have := HBW.out; omega) ?_); intro v' w2 hown' hgrow _; have hb2 : w2.heap[b]? = some (.cells #[.pointer (some ⟨b, 0, none⟩), .slice pu nu cu] 77 (0, 0)) := by { rw [hgrow.block b (lt_of_heap HK.out.1) (fun e => HK.out.2.1 e.symm)]; exact HK.out.1 }; have d1 : w2.cell? ⟨b, 1, none⟩ = some (.slice pu nu cu) := by { rw [Lib.cell_of_heap hb2]; rfl }; have f1 : w2.frozen? ⟨b, 1, none⟩ = false := Lib.frozen_of_heap hb2 1; have HO2 : Hid (w2.ownsRowF B 5 1 v' (l.length + x.size) (Lib.byteCells l ++ Lib.strCells x)) := hown'; have HB2 : Hid (Below B w w2) := HB1.out.grown hgrow (by have := HB1.out.size; have := HBW.out; omega) (fun k hk => (HO.out.lt k hk).1); have HH2 : Hid (w2.heap[b]? = some (.cells #[.pointer (some ⟨b, 0, none⟩), .slice pu nu cu] 77 (0, 0))) := hb2; obtain ⟨pv, nv, cv, hvv⟩ : ∃ p n c, v' = .slice p n c := by { rcases hown'.2 with ⟨hv, _⟩ | ⟨g, cap, cur, fz, hv, _⟩; exact ⟨_, _, _, hv⟩; exact ⟨_, _, _, hv⟩ }; subst hvv; clear hown' hgrow hb2)
  go_ret2
  refine ⟨rfl, Or.inr ?_, HB2.out.setCell (p := ⟨b, 1, none⟩) HK.out.2.2 _⟩
  exact Lib.BuilderAtF.put (T := 77) (e := 5) HK.out.2.2 HH2.out (bs' := Lib.byteCells (l ++ x.data.toList)) (by
    have := HO2.out
    simpa [Lib.byteCells, Lib.strCells, List.map_append] using this) (by decide)
theorem byte_new (w : World) (c : Int) : ∀ (j : Nat) (u : Value), [Value.int .u8 c][j]? = some u → (w.alloc (.cells #[.int .u8 c] 5)).cell? ((⟨w.heap.size, 0, none⟩ : Addr).add j) = some u := by
  intro j u hj
  match j, hj with
  | 0, hj => simp at hj; subst hj; simp [Addr.add]
set_option maxHeartbeats 2000000 in
theorem writeByte_any (B b : Nat) (l : List UInt8) (x : UInt8) (w : World) (h : Bld B b l w) (hl : l.length + 1 ≤ 140737488355328) (hBw : B ≤ w.heap.size) :
    Calls Tryd.prog 26 #[.pointer (some ⟨b, 0, none⟩), .int .u8 (x.toNat : Int)] w fun e w' => e = .returned .nilIface ∧ Bld B b (l ++ [x]) w' ∧ Below B w w' := by
  obtain ⟨i0, hi, hz0, hz1, hz2⟩ := info_parts infoB
  have HI : Hid (Tryd.prog.info? 5 = some i0 ∧ i0.zero = some (.int .u8 0) ∧ i0.size = 1 ∧ i0.bytes = 1) := ⟨hi, hz0, hz1, hz2⟩
  have HC : Hid (∀ W, W = w → Calls Tryd.prog 57 #[.pointer (some ⟨b, 0, none⟩)] W fun e w' => e = .returned (.tuple #[]) ∧ BldU B b l w' ∧ Below B w w') := fun W hW => by subst hW; exact bcheck_any B b l W h
  have HL : Hid (l.length + 1 ≤ 140737488355328) := hl
  have HBW : Hid (B ≤ w.heap.size) := hBw
  clear hi hz0 hz1 hz2 h hl hBw
  go_enter Tryd.func26, Tryd.ntmps26
  go_wp2_with (go_at_call 57; refine (HC.out _ rfl).mono ?_)
  rintro e w1 ⟨rfl, h1, hb1⟩
  obtain ⟨hB, v, hbk, hown, hne⟩ := h1
  have c1 : w1.cell? ⟨b, 1, none⟩ = some v := by rw [Lib.cell_of_heap hbk]; rfl
  rw [Lib.byteCells_length] at hown
  have HO : Hid (w1.ownsRowF B 5 1 v l.length (Lib.byteCells l)) := hown
  have HK : Hid (w1.heap[b]? = some (.cells #[.pointer (some ⟨b, 0, none⟩), v] 77 (0, 0)) ∧ v.ownBlock ≠ some b ∧ B ≤ b) := ⟨hbk, hne, hB⟩
  have HB1 : Hid (Below B w w1) := hb1
  obtain ⟨pu, nu, cu, rfl⟩ : ∃ p n c, v = .slice p n c := by
    rcases hown.2 with ⟨hv, _⟩ | ⟨g, cap, cur, fz, hv, _⟩
    · exact ⟨_, _, _, hv⟩
    · exact ⟨_, _, _, hv⟩
  clear hbk hown hne hB hb1 HC
  go_wp2_with (at_builtin; go_loud (refine wpList_append_ownF _ rfl _ _ 75 rfl B 5 i0 (.int .u8 0) 1 1 Tryd.underlying75 HI.out.1 HI.out.2.1 HI.out.2.2.1 HI.out.2.2.2 rfl (by decide) _ _ _ rfl (HO.out.alloc _) ⟨w1.heap.size, 0, none⟩ 1 1 [.int .u8 (x.toNat : Int)] rfl rfl (byte_new _ _) (by intro u hu; simp at hu; subst hu; rfl) (by unfold maxLen; have := HL.out; omega) (by have := HL.out; omega) (by have := HB1.out.size; have := HBW.out; simp; omega) ?_); intro v' w2 hown' hgrow _; have hb2 : w2.heap[b]? = some (.cells #[.pointer (some ⟨b, 0, none⟩), .slice pu nu cu] 77 (0, 0)) := by { rw [hgrow.block b (by have := lt_of_heap HK.out.1; simp; omega) (fun e => HK.out.2.1 e.symm), Lib.alloc_old w1 _ b (lt_of_heap HK.out.1)]; exact HK.out.1 }; have d1 : w2.cell? ⟨b, 1, none⟩ = some (.slice pu nu cu) := by { rw [Lib.cell_of_heap hb2]; rfl }; have f1 : w2.frozen? ⟨b, 1, none⟩ = false := Lib.frozen_of_heap hb2 1; have HO2 : Hid (w2.ownsRowF B 5 1 v' (l.length + 1) (Lib.byteCells l ++ [.int .u8 (x.toNat : Int)])) := hown'; have HB2 : Hid (Below B w w2) := (HB1.out.alloc (by have := HB1.out.size; have := HBW.out; omega) _).grown hgrow (by have := HB1.out.size; have := HBW.out; simp; omega) (fun k hk => (HO.out.lt k hk).1); have HH2 : Hid (w2.heap[b]? = some (.cells #[.pointer (some ⟨b, 0, none⟩), .slice pu nu cu] 77 (0, 0))) := hb2; obtain ⟨pv, nv, cv, hvv⟩ : ∃ p n c, v' = .slice p n c := by { rcases hown'.2 with ⟨hv, _⟩ | ⟨g, cap, cur, fz, hv, _⟩; exact ⟨_, _, _, hv⟩; exact ⟨_, _, _, hv⟩ }; subst hvv; clear hown' hgrow hb2)
  go_ret
  refine ⟨rfl, Or.inr ?_, HB2.out.setCell (p := ⟨b, 1, none⟩) HK.out.2.2 _⟩
  exact Lib.BuilderAtF.put (T := 77) (e := 5) HK.out.2.2 HH2.out (bs' := Lib.byteCells (l ++ [x])) (by
    have := HO2.out
    simpa [Lib.byteCells, Lib.strCells, List.map_append] using this) (by decide)
end Go.Proofs.YtggfaglfchepfaaDoor
namespace Go.Proofs.YtggfaglfchepfaaDoor
open Go.ChangeShapes Go.WideShapes Go.ChangeAt Go.RowKit Go.Maps Go.Deep
set_option linter.unusedVariables false
set_option linter.unusedSimpArgs false
theorem below_grows (w : World) (k : Nat) (os : Array Obj) : Below w.heap.size w (Go.Sort.grow (w.drewN k) os) :=
  ⟨rfl, rfl, rfl, by simp [Go.Sort.grow, World.drewN], fun i hi => by simp [Go.Sort.grow, World.drewN, Array.getElem?_append, hi]⟩
theorem cat_list (a b : ByteArray) : (a ++ b).data.toList = a.data.toList ++ b.data.toList := by
  rw [ByteArray.data_append, Array.toList_append]
set_option maxHeartbeats 2000000 in
theorem show_2 (s : ByteArray) (n : Int) (w : World) (hP : Pow w) (hn : wfI n) :
    Calls Tryd.prog 25 #[.agg #[.int .i64 2, .string s, .int .i64 n]] w fun e w' => e = .returned (.string (txt (Lib.itoa n))) ∧ Below w.heap.size w w' := by
  have HC : Hid (∀ o W, W = w.alloc o → Calls Tryd.prog 58 #[.int .i64 n] W fun e w' => e = .returned (.string (txt (Lib.itoa n))) ∧ Below w.heap.size w w') := fun o W hW => by
    subst hW
    refine (Tryd.strconv_Itoa n hn.1 hn.2 _ (hP.below (below_new _ _))).mono ?_
    rintro e w' ⟨rfl, k, os, rfl⟩
    exact ⟨rfl, below_trans (below_new _ _) (below_grows _ k os) (by simp)⟩
  clear hP hn
  go_enter Tryd.func25, Tryd.ntmps25
  go_wp2_with (go_at_call 58; refine (HC.out _ _ rfl).mono ?_; rintro e w2 ⟨rfl, hb2⟩)
  go_ret
  exact ⟨rfl, hb2⟩
set_option maxHeartbeats 2000000 in
theorem show_3 (s : ByteArray) (n : Int) (w : World) (hs : s.size ≤ 20) :
    Calls Tryd.prog 25 #[.agg #[.int .i64 3, .string s, .int .i64 n]] w fun e w' => e = .returned (.string (txt (34 :: (s.data.toList ++ [34])))) ∧ Below w.heap.size w w' := by
  go_enter Tryd.func25, Tryd.ntmps25
  go_wp2
  go_ret
  refine ⟨ret_str ?_, by go_grown⟩
  rw [txt_eq, cat_list, cat_list]
  rfl
set_option maxHeartbeats 2000000 in
theorem show_o (k n : Int) (s : ByteArray) (w : World) (h2 : k ≠ 2) (h3 : k ≠ 3) :
    Calls Tryd.prog 25 #[.agg #[.int .i64 k, .string s, .int .i64 n]] w fun e w' => e = .returned (.string s) ∧ Below w.heap.size w w' := by
  go_enter Tryd.func25, Tryd.ntmps25
  go_wp2
  go_ret
  exact ⟨rfl, by go_grown⟩
theorem ib_no {l : List UInt8} {c : UInt8} (h : ¬ 0 ≤ Lib.indexByte l c) : c ∉ l := fun hm => h ((ib_iff c l).2 hm)
theorem mk_len {l : List UInt8} (h : l ∈ mkl) : l.length ≤ 2 := by
  have : (mkl.all fun m => decide (m.length ≤ 2)) = true := by decide
  have := List.all_eq_true.1 this l h
  simpa using this
/-- What a token that may be is like. -/
theorem fine {t : Tk} (h : tchk t = 0) : (t.k = 1 ∧ t.n = 0 ∧ nchk t.s = 0) ∨ (t.k = 2 ∧ t.s.data.toList = [] ∧ 0 ≤ t.n ∧ t.n ≤ 1125899906842624) ∨ (t.k = 3 ∧ t.n = 0 ∧ (34 : UInt8) ∉ t.s.data.toList ∧ t.s.size ≤ 20) ∨ (t.k = 4 ∧ t.n = 0 ∧ t.s.data.toList ∈ mkl) := by
  unfold tchk at h
  split at h
  · rename_i h1
    split at h
    · omega
    · rename_i h2; exact .inl ⟨h1, by omega, h⟩
  · split at h
    · rename_i h1
      split at h
      · omega
      · rename_i h2
        split at h
        · omega
        · rename_i h3; exact .inr (.inl ⟨h1, by simpa using h2, by omega, by omega⟩)
    · split at h
      · rename_i h1
        split at h
        · omega
        · rename_i h2
          split at h
          · omega
          · rename_i h3; exact .inr (.inr (.inl ⟨h1, by omega, ib_no (by omega), by omega⟩))
      · split at h
        · rename_i h1
          split at h
          · omega
          · rename_i h2
            have h3 : t.s.data.toList ∈ mkl := Classical.byContradiction fun c => h2 (.inr c)
            exact .inr (.inr (.inr ⟨h1, Classical.byContradiction fun c => h2 (.inl c), h3⟩))
        · omega
theorem dec_len : ∀ (k u : Nat), u < 10 ^ (k + 1) → (Lib.decDigits u).length ≤ k + 1
  | 0, u, h => by
    rw [Lib.decDigits, dif_pos (by simpa using h)]
    simp
  | k + 1, u, h => by
    by_cases h2 : u < 10
    · rw [Lib.decDigits, dif_pos h2]; simp
    · rw [Lib.decDigits, dif_neg h2, List.length_append]
      have := dec_len k (u / 10) (by rw [Nat.pow_succ] at h; omega)
      simp
      omega
theorem nchk_len {s : ByteArray} (h : nchk s = 0) : s.size ≤ 10 := by
  unfold nchk at h
  split at h
  · omega
  · omega
theorem shw_len {t : Tk} (h : tchk t = 0) : (shw t).length ≤ 22 := by
  unfold shw
  rcases fine h with ⟨h1, h2, h3⟩ | ⟨h1, h2, h3, h4⟩ | ⟨h1, h2, h3, h4⟩ | ⟨h1, h2, h3⟩
  · rw [if_neg (by omega), if_neg (by omega)]
    have := nchk_len h3
    simp
    omega
  · rw [if_pos h1]
    unfold Lib.itoa
    rw [if_neg (by omega)]
    have := dec_len 16 t.n.toNat (by omega)
    omega
  · rw [if_neg (by omega), if_pos h1]
    simp
    omega
  · rw [if_neg (by omega), if_neg (by omega)]
    have := mk_len h3
    omega
theorem show_any (t : Tk) (w : World) (hP : Pow w) (ht : tchk t = 0) :
    Calls Tryd.prog 25 #[.agg #[.int .i64 t.k, .string t.s, .int .i64 t.n]] w fun e w' => e = .returned (.string (txt (shw t))) ∧ Below w.heap.size w w' := by
  obtain ⟨k, s, n⟩ := t
  unfold shw
  rcases fine ht with ⟨h, h2, h3⟩ | ⟨h, h2, h3, h4⟩ | ⟨h, h2, h3, h4⟩ | ⟨h, h2, h3⟩
  · simp only at h; subst h
    simp only
    rw [if_neg (by omega), if_neg (by omega), txt_of]
    exact show_o 1 n s w (by omega) (by omega)
  · simp only at h; subst h
    simp only
    simp only [if_true]
    exact show_2 s n w hP ⟨by simp at h3; omega, by simp at h4; omega⟩
  · simp only at h; subst h
    simp only
    rw [if_neg (by omega)]
    simp only [if_true]
    exact show_3 s n w h4
  · simp only at h; subst h
    simp only
    rw [if_neg (by omega), if_neg (by omega), txt_of]
    exact show_o 4 n s w (by omega) (by omega)
theorem cat_append (a b : List Tk) : cat (a ++ b) = cat a ++ cat b := by
  induction a with
  | nil => rfl
  | cons t l ih => simp [cat, ih]
theorem cat_take (l : List Tk) (k : Nat) (h : k < l.length) : cat (l.take (k + 1)) = (cat (l.take k) ++ shw l[k]) ++ [32] := by
  rw [List.take_succ_eq_append_getElem h, cat_append]
  simp [cat]
theorem cat_len (l : List Tk) (h : ∀ t ∈ l, tchk t = 0) : (cat l).length ≤ 23 * l.length := by
  induction l with
  | nil => simp [cat]
  | cons t l ih =>
    have h1 := shw_len (h t (by simp))
    have h2 := ih (fun x hx => h x (by simp [hx]))
    simp [cat]
    omega
def tat (l : List Tk) (i : Nat) : Int := match l[i]? with | none => 0 | some t => tchk t
theorem tat_at {l : List Tk} {k : Nat} (h : k < l.length) : tat l k = tchk l[k] := by unfold tat; rw [List.getElem?_eq_getElem h]
theorem tat_all {l : List Tk} (h : fst (tat l) l.length = 0) : ∀ t ∈ l, tchk t = 0 := by
  intro t ht
  obtain ⟨k, hk, rfl⟩ := List.getElem_of_mem ht
  rw [← tat_at hk]
  exact fst_zero h k hk
/-- What Join answers: a text and an error. -/
def jn (l : List Tk) : List UInt8 × Int :=
  if 700 < l.length then ([], 8) else if fst (tat l) l.length ≠ 0 then ([], fst (tat l) l.length) else if 3000 < (cat l).length then ([], 1) else (cat l, 0)
theorem bld_below {B b : Nat} {l : List UInt8} {w w' : World} (h : Bld B b l w) (bel : Below w.heap.size w w') : Bld B b l w' := by
  have key : ∀ p, Lib.BuilderAtF 77 5 B b p (Lib.byteCells l) w → Lib.BuilderAtF 77 5 B b p (Lib.byteCells l) w' := by
    rintro p ⟨hB, v, hb, hown, hne⟩
    refine ⟨hB, v, (bel.block b (lt_of_heap hb)).trans hb, ⟨hown.1, ?_⟩, hne⟩
    rcases hown.2 with h2 | ⟨g, cap, cur, fz, rfl, h1, h2, h3⟩
    · exact Or.inl h2
    · exact Or.inr ⟨g, cap, cur, fz, rfl, h1, (bel.block g (lt_of_heap h2)).trans h2, h3⟩
  rcases h with h | h
  · exact Or.inl (key _ h)
  · exact Or.inr (key _ h)
theorem bld_lt {B b : Nat} {l : List UInt8} {w : World} (h : Bld B b l w) : b < w.heap.size := by
  rcases h with ⟨_, v, hb, _⟩ | ⟨_, v, hb, _⟩ <;> exact lt_of_heap hb
theorem bld_new (w : World) : Bld w.heap.size w.heap.size [] (w.alloc (.cells #[.pointer none, .slice none 0 0] 77)) :=
  Or.inl (Lib.BuilderAtF.of ⟨Nat.le_refl _, .slice none 0 0, heap_alloc_new _ _, World.ownsRow_nil _ _ _ _, by simp [Value.ownBlock]⟩)
set_option maxHeartbeats 8000000 in
theorem join_any (v : Value) (l : List Tk) (w : World) (hv : TokensAt w v l) (hM : Marks w) (hP : Pow w) :
    Calls Tryd.prog 11 #[v] w fun e w' => e = .returned (.tuple #[.string (txt (jn l).1), .int .i64 (jn l).2]) ∧ Below w.heap.size w w' := by
  have HV : Hid (TokensAt w v l) := hv
  have HM : Hid (Marks w) := hM
  have HP : Hid (Pow w) := hP
  obtain ⟨p, cap, rfl, hcap, hmax, hp⟩ := hv
  obtain ⟨x, hx⟩ : ∃ x, (jn l).1 = x := ⟨_, rfl⟩
  obtain ⟨r, hr⟩ : ∃ r, (jn l).2 = r := ⟨_, rfl⟩
  have hj : jn l = (x, r) := by rw [← hx, ← hr]
  have HJ : Hid (jn l = (x, r)) := hj
  clear hj
  rw [hx, hr]
  clear hx hr hM hP
  obtain ⟨n, hnl⟩ : ∃ n, l.length = n := ⟨_, rfl⟩
  have HP0 : Hid (0 < l.length → ∃ g off, p = some ⟨g, off, none⟩ ∧ ∀ j (hj : j < l.length), g < w.heap.size ∧ w.cell? ⟨g, off + j * 3, none⟩ = some (.int .i64 l[j].k) ∧ w.cell? ⟨g, off + j * 3 + 1, none⟩ = some (.string l[j].s) ∧ w.cell? ⟨g, off + j * 3 + 2, none⟩ = some (.int .i64 l[j].n)) := hp
  have HNL : Hid (l.length = n) := hnl
  have hmx : (n : Int) ≤ 9223372036854775807 := by unfold maxLen at hmax; omega
  rw [hnl]
  clear hp hnl hcap hmax
  by_cases h7 : 700 < n
  · have HQ : Hid ([] = x ∧ (8 : Int) = r) := by
      have := HJ.out
      unfold jn at this
      rw [HNL.out, if_pos h7] at this
      exact ⟨congrArg Prod.fst this, congrArg Prod.snd this⟩
    have h7d : decide ((700 : Int) < (n : Int)) = true := by simp; omega
    clear HJ
    go_enter Tryd.func11, Tryd.ntmps11
    go_wp2
    go_ret2
    exact ⟨by rw [← HQ.out.1, ← HQ.out.2]; rfl, Below.refl _ _⟩
  · have h7d : decide ((700 : Int) < (n : Int)) = false := by simp; omega
    have HJ2 : Hid ((if fst (tat l) n ≠ 0 then ([], fst (tat l) n) else if 3000 < (cat l).length then ([], 1) else (cat l, 0)) = (x, r)) := by
      have := HJ.out
      unfold jn at this
      rw [HNL.out, if_neg h7] at this
      exact this
    clear HJ
    go_enter Tryd.func11, Tryd.ntmps11
    go_wp2
    go_loopw [15] (fun i wr => ∃ k : Nat, k ≤ n ∧ i = .int .i64 (k : Nat) ∧ fst (tat l) k = 0 ∧ Below w.heap.size w wr) (fun i _ => n + 1 - (intOf i).toNat)
    case atStart => exact ⟨0, by omega, rfl, rfl, Below.refl _ _⟩
    case round =>
      obtain ⟨k, hk, rfl, hf, hB⟩ := hrel
      have HF : Hid (fst (tat l) k = 0) := hf
      have HB : Hid (Below w.heap.size w wr) := hB
      by_cases hlt : k < n
      · have hkd : k < l.length := by have := HNL.out; omega
        obtain ⟨g, off, hg, hc⟩ := HP0.out (by omega)
        obtain ⟨hgs, c0, c1, c2⟩ := hc k hkd
        subst hg
        have HTA : Hid (tat l k = tchk l[k]) := tat_at hkd
        obtain ⟨d, hdk⟩ : ∃ d, l[k] = d := ⟨_, rfl⟩
        rw [hdk] at c0 c1 c2 HTA
        have b0 : wr.cell? ⟨g, off + k * 3, none⟩ = some (.int .i64 d.k) := (hB.cell (p := ⟨g, off + k * 3, none⟩) hgs).trans c0
        have b1 : wr.cell? ⟨g, off + k * 3 + 1, none⟩ = some (.string d.s) := (hB.cell (p := ⟨g, off + k * 3 + 1, none⟩) hgs).trans c1
        have b2 : wr.cell? ⟨g, off + k * 3 + 2, none⟩ = some (.int .i64 d.n) := (hB.cell (p := ⟨g, off + k * 3 + 2, none⟩) hgs).trans c2
        have i1 : (0 : Int) ≤ (k : Int) := by omega
        have i2 : (k : Int) < (n : Int) := by omega
        have hne : wr.heap.size ≠ g := by have := hB.size; omega
        have HMR : Hid (∀ o, Marks (wr.alloc o)) := fun o => (HM.out.below HB.out).alloc o
        obtain ⟨e0, he0⟩ : ∃ e0, tchk d = e0 := ⟨_, rfl⟩
        have HE : Hid (tchk d = e0) := he0
        have HCK : Hid (∀ W, Marks W → Calls Tryd.prog 15 #[.agg #[.int .i64 d.k, .string d.s, .int .i64 d.n]] W fun e w' => e = .returned (.int .i64 e0) ∧ Below W.heap.size W w') := fun W hW => by rw [← he0]; exact check_any d W hW
        clear hc hdk c0 c1 c2 hgs hf hB hkd he0
        by_cases hr0 : e0 = 0
        · subst hr0
          go_wp2_with (go_at_call 15; refine (HCK.out _ (HMR.out _)).mono ?_; rintro e w2 ⟨rfl, hb2⟩; have HB2 : Hid (Below w.heap.size w w2) := below_trans (HB.out.alloc HB.out.size _) hb2 (by simp; have := HB.out.size; omega); clear hb2)
          go_roundw
          case rel => exact ⟨k + 1, by omega, by go_num, fst_step HF.out (HTA.out.trans HE.out), HB2.out⟩
          case measure => simp [intOf]; omega
        · have hrb : (e0 == 0) = false := by simpa using hr0
          have hrd : (e0 != 0) = true := by simpa using hr0
          have hq : fst (tat l) n = e0 := by
            rw [fst_hit HF.out (by rw [HTA.out, HE.out]; exact hr0) hlt, HTA.out, HE.out]
          have HQ : Hid ([] = x ∧ e0 = r) := by
            have := HJ2.out
            rw [hq, if_pos hr0] at this
            exact ⟨congrArg Prod.fst this, congrArg Prod.snd this⟩
          clear hq
          go_wp2_with (go_at_call 15; refine (HCK.out _ (HMR.out _)).mono ?_; rintro e w2 ⟨rfl, hb2⟩; have HB2 : Hid (Below w.heap.size w w2) := below_trans (HB.out.alloc HB.out.size _) hb2 (by simp; have := HB.out.size; omega); clear hb2)
          go_ret2
          exact ⟨by rw [← HQ.out.1, ← HQ.out.2]; rfl, HB2.out⟩
      · obtain rfl : k = n := by omega
        clear hf hB
        have hall : ∀ t ∈ l, tchk t = 0 := tat_all (by rw [HNL.out]; exact HF.out)
        have HALL : Hid (∀ t ∈ l, tchk t = 0) := hall
        have hcl := cat_len l hall
        rw [HNL.out] at hcl
        have HCL : Hid ((cat l).length ≤ 23 * k) := hcl
        have HJ3 : Hid ((if 3000 < (cat l).length then ([], 1) else (cat l, 0)) = (x, r)) := by
          have := HJ2.out
          rw [HF.out, if_neg (by simp)] at this
          exact this
        clear hall hcl HJ2
        go_wp2
        obtain ⟨w1, hw1⟩ : ∃ w1, w1 = wr := ⟨_, rfl⟩
        subst hw1
        obtain ⟨b, hb⟩ : ∃ b, w1.heap.size = b := ⟨_, rfl⟩
        have HNEW : Hid (Bld b b [] (w1.alloc (.cells #[.pointer none, .slice none 0 0] 77))) := by rw [← hb]; exact bld_new w1
        have HB1 : Hid (Below w.heap.size w (w1.alloc (.cells #[.pointer none, .slice none 0 0] 77))) := HB.out.alloc HB.out.size _
        have HWB : Hid (w.heap.size ≤ b) := by rw [← hb]; exact HB.out.size
        rw [hb]
        clear hb HB HF
        go_loopw [27] (fun i wr => ∃ j : Nat, j ≤ k ∧ i = .int .i64 (j : Nat) ∧ Bld b b (cat (l.take j)) wr ∧ Below w.heap.size w wr) (fun i _ => k + 1 - (intOf i).toNat)
        case atStart => exact ⟨0, by omega, rfl, by simpa [cat] using HNEW.out, HB1.out⟩
        case round =>
          obtain ⟨j, hj, rfl, hbl, hB⟩ := hrel
          have HBL : Hid (Bld b b (cat (l.take j)) wr) := hbl
          have HB : Hid (Below w.heap.size w wr) := hB
          clear hbl
          by_cases hlt2 : j < k
          · have hkd : j < l.length := by have := HNL.out; omega
            obtain ⟨g, off, hg, hc⟩ := HP0.out (by omega)
            obtain ⟨hgs, c0, c1, c2⟩ := hc j hkd
            subst hg
            have hct := cat_take l j hkd
            have htc : tchk l[j] = 0 := HALL.out _ (List.getElem_mem hkd)
            have hlen1 : (cat (l.take (j + 1))).length ≤ 16100 := by
              have := cat_len (l.take (j + 1)) (fun t ht => HALL.out t (List.mem_of_mem_take ht))
              have h2 : (l.take (j + 1)).length ≤ j + 1 := List.length_take_le _ _
              omega
            rw [hct, List.length_append, List.length_append] at hlen1
            obtain ⟨d, hdk⟩ : ∃ d, l[j] = d := ⟨_, rfl⟩
            rw [hdk] at c0 c1 c2 hct htc hlen1
            have b0 : wr.cell? ⟨g, off + j * 3, none⟩ = some (.int .i64 d.k) := (hB.cell (p := ⟨g, off + j * 3, none⟩) hgs).trans c0
            have b1 : wr.cell? ⟨g, off + j * 3 + 1, none⟩ = some (.string d.s) := (hB.cell (p := ⟨g, off + j * 3 + 1, none⟩) hgs).trans c1
            have b2 : wr.cell? ⟨g, off + j * 3 + 2, none⟩ = some (.int .i64 d.n) := (hB.cell (p := ⟨g, off + j * 3 + 2, none⟩) hgs).trans c2
            have i1 : (0 : Int) ≤ (j : Int) := by omega
            have i2 : (j : Int) < (k : Int) := by omega
            have hne : wr.heap.size ≠ g := by have := hB.size; omega
            have HSH : Hid (∀ W, Pow W → Calls Tryd.prog 25 #[.agg #[.int .i64 d.k, .string d.s, .int .i64 d.n]] W fun e w' => e = .returned (.string (txt (shw d))) ∧ Below W.heap.size W w') := fun W hW => show_any d W hW htc
            have HPR : Hid (∀ o, Pow (wr.alloc o)) := fun o => (HP.out.below HB.out).below (below_new _ _)
            have HCT : Hid (cat (l.take (j + 1)) = (cat (l.take j) ++ shw d) ++ [32] ∧ (cat (l.take j)).length + (shw d).length + 1 ≤ 16100) := ⟨hct, by simpa using hlen1⟩
            obtain ⟨y, hy⟩ : ∃ y, txt (shw d) = y := ⟨_, rfl⟩
            have HY : Hid (y.data.toList = shw d ∧ y.size = (shw d).length) := ⟨by rw [← hy, txt_list], by rw [← hy, txt_size]⟩
            rw [hy] at HSH
            have HWB2 : Hid (b < wr.heap.size) := bld_lt HBL.out
            clear hc hdk c0 c1 c2 hgs hB hkd hct htc hlen1 hy
            go_wp2_with (first
              | (go_at_call 26; refine (writeByte_any b b _ 32 _ HBL3.out (by have := HCT.out.2; rw [List.length_append, HY.out.1]; omega) (by have := HSZ3.out; omega)).mono ?_; rintro e w4 ⟨rfl, hbl4, hb4⟩; have HBL4 : Hid (Bld b b (cat (l.take (j + 1))) w4) := by { rw [HCT.out.1, ← HY.out.1]; exact hbl4 }; have HB4 : Hid (Below w.heap.size w w4) := below_trans HB3.out hb4 HWB.out; clear hbl4 hb4)
              | (go_at_call 24; refine (writeString_any b b _ y _ HBL2.out (by have := HCT.out.2; rw [HY.out.2]; omega) (by have := HSZ2.out; omega)).mono ?_; rintro e w3 ⟨rfl, hbl3, hb3⟩; have HBL3 : Hid (Bld b b (cat (l.take j) ++ y.data.toList) w3) := hbl3; have HB3 : Hid (Below w.heap.size w w3) := below_trans HB2.out hb3 HWB.out; have HSZ3 : Hid (b < w3.heap.size) := bld_lt hbl3; clear hbl3 hb3)
              | (go_at_call 25; refine (HSH.out _ (HPR.out _)).mono ?_; rintro e w2 ⟨rfl, hb2⟩; have HB2 : Hid (Below w.heap.size w w2) := below_trans (HB.out.alloc HB.out.size _) hb2 (by simp; have := HB.out.size; omega); have HBL2 : Hid (Bld b b (cat (l.take j)) w2) := bld_below (bld_below HBL.out (below_new _ _)) hb2; have HSZ2 : Hid (b < w2.heap.size) := bld_lt HBL2.out; clear hb2))
            go_roundw
            case rel => exact ⟨j + 1, by omega, by go_num, HBL4.out, HB4.out⟩
            case measure => simp [intOf]; omega
          · obtain rfl : j = k := by omega
            have htk : l.take j = l := List.take_of_length_le (by rw [HNL.out]; exact Nat.le_refl _)
            rw [htk] at HBL
            have HLEN : Hid (∀ W, Bld b b (cat l) W → Calls Tryd.prog 27 #[.pointer (some ⟨b, 0, none⟩)] W fun e w' => e = .returned (.int .i64 ((cat l).length : Int)) ∧ w' = W) := fun W hW => by
              have := Tryd.Builder_Len_f b b _ W hW
              rw [Lib.byteCells_length] at this
              exact this
            obtain ⟨m, hm⟩ : ∃ m, (cat l).length = m := ⟨_, rfl⟩
            rw [hm] at HLEN
            by_cases h3 : 3000 < m
            · have h3d : decide ((3000 : Int) < (m : Int)) = true := by simp; omega
              have HQ : Hid ([] = x ∧ (1 : Int) = r) := by
                have := HJ3.out
                rw [hm, if_pos h3] at this
                exact ⟨congrArg Prod.fst this, congrArg Prod.snd this⟩
              clear hB htk hm
              go_wp2_with (go_at_call 27; refine (HLEN.out _ HBL.out).mono ?_; rintro e wr ⟨rfl, rfl⟩)
              go_ret2
              exact ⟨by rw [← HQ.out.1, ← HQ.out.2]; rfl, HB.out⟩
            · have h3d : decide ((3000 : Int) < (m : Int)) = false := by simp; omega
              have HQ : Hid (cat l = x ∧ (0 : Int) = r) := by
                have := HJ3.out
                rw [hm, if_neg h3] at this
                exact ⟨congrArg Prod.fst this, congrArg Prod.snd this⟩
              have HSZ : Hid (b ≤ wr.heap.size) := Nat.le_of_lt (bld_lt HBL.out)
              clear hB htk hm
              go_wp2_with (first | (go_at_call 27; refine (HLEN.out _ HBL.out).mono ?_; rintro e wr ⟨rfl, rfl⟩) | (go_at_call 28; refine (Tryd.Builder_String_any_f b b _ _ HBL.out HSZ.out).mono ?_; rintro e w5 ⟨rfl, _, hb5⟩; have HB5 : Hid (Below w.heap.size w w5) := below_trans HB.out hb5 HWB.out; clear hb5))
              go_ret2
              exact ⟨by rw [← HQ.out.1, ← HQ.out.2]; rfl, HB5.out⟩
end Go.Proofs.YtggfaglfchepfaaDoor
namespace Go.Proofs.YtggfaglfchepfaaDoor
open Go.ChangeShapes Go.WideShapes Go.ChangeAt Go.RowKit
set_option linter.unusedVariables false
set_option linter.unusedSimpArgs false
theorem lw_not {c : UInt8} (h : lw c = true) : dg c = false ∧ skp false (c :: ([] : List UInt8)) = 0 := by
  unfold lw at h
  simp at h
  refine ⟨by simp [dg]; omega, skp_none _ (by omega) (by omega)⟩
theorem skp_first (c : UInt8) (l : List UInt8) (h : skp false (c :: ([] : List UInt8)) = 0) : skp false (c :: l) = 0 := by
  by_cases h1 : c = 32 ∨ c = 9 ∨ c = 10 ∨ c = 13
  · simp [skp, h1] at h
  · by_cases h2 : c = 35
    · simp [skp, h1, h2] at h
    · simp [skp, h1, h2]
theorem word_bytes {s : ByteArray} (h : nchk s = 0) : ∃ c l, s.data.toList = c :: l ∧ lw c = true ∧ (∀ x ∈ s.data.toList, aln x = true) ∧ s.data.toList.length ≤ 10 := by
  have h10 := nchk_len h
  unfold nchk at h
  split at h
  · omega
  · rename_i hs
    have hz := fst_zero h
    have hl : s.data.toList.length = s.size := by simp
    cases hd : s.data.toList with
    | nil => rw [hd] at hl; simp at hl; omega
    | cons c l =>
      have h0 := hz 0 (by omega)
      unfold sgn byteN at h0
      rw [hd] at h0
      simp at h0
      refine ⟨c, l, rfl, ?_, ?_, by rw [← hd, hl]; exact h10⟩
      · unfold lw; unfold isL at h0; simp; omega
      · intro x hx
        obtain ⟨k, hk, rfl⟩ := List.getElem_of_mem hx
        have hk2 := hz k (by rw [hd] at hl; omega)
        unfold sgn byteN at hk2
        rw [hd] at hk2
        rw [List.getD_eq_getElem?_getD, List.getElem?_eq_getElem hk] at hk2
        simp at hk2
        unfold aln lw dg
        unfold isL isD at hk2
        simp
        by_cases hq : 97 ≤ ((c :: l)[k].toNat : Int) ∧ ((c :: l)[k].toNat : Int) ≤ 122
        · left; omega
        · have := hk2 hq
          right; omega
theorem wl_take : ∀ (b Y : List UInt8), (∀ x ∈ b, aln x = true) → (∀ c Z, Y = c :: Z → aln c = false) → wl (b ++ Y) = b.length
  | [], Y, _, h2 => by
    cases Y with
    | nil => rfl
    | cons c Z => simp [wl, h2 c Z rfl]
  | x :: b, Y, h1, h2 => by
    have hx := h1 x (by simp)
    have ih := wl_take b Y (fun y hy => h1 y (by simp [hy])) h2
    simp [wl, hx, ih]
theorem rd_word {s : ByteArray} (h : nchk s = 0) (X : List UInt8) : rd (s.data.toList ++ 32 :: X) = ⟨0, ⟨1, s, 0⟩, s.data.toList.length⟩ := by
  obtain ⟨c, l, hd, hc, ha, hl⟩ := word_bytes h
  have hb : bgn (s.data.toList ++ 32 :: X) = 1 := by rw [hd, List.cons_append, bgn_cons, if_pos hc]
  have hw : wl (s.data.toList ++ 32 :: X) = s.data.toList.length := wl_take _ _ ha (by rintro c Z h; cases h; rfl)
  unfold rd
  rw [hb, if_neg (by omega), if_pos rfl]
  unfold rdW
  rw [hw, if_neg (by omega), List.take_left, txt_of]
theorem dgt (d : Nat) (h : d < 10) : (UInt8.ofNat (48 + d)).toNat = 48 + d := by rw [UInt8.toNat_ofNat']; omega
theorem numF_dec : ∀ (n u : Nat), u < n → u ≤ 1125899906842624 → ∀ (j : Nat) (Y : List UInt8), numF (Lib.decDigits u ++ Y) 0 j = numF Y u (j + (Lib.decDigits u).length)
  | 0, u, h, _, _, _ => by omega
  | n + 1, u, h, hm, j, Y => by
    by_cases h2 : u < 10
    · rw [Lib.decDigits, dif_pos h2]
      simp only [List.cons_append, List.nil_append, numF_cons]
      have e := dgt u h2
      rw [if_pos (by simp [dg, e]; omega), e]
      rw [if_neg (by omega)]
      congr 1 <;> omega
    · rw [Lib.decDigits, dif_neg h2, List.append_assoc, numF_dec n (u / 10) (by omega) (by omega)]
      simp only [List.cons_append, List.nil_append, numF_cons]
      have e := dgt (u % 10) (by omega)
      rw [if_pos (by simp [dg, e]; omega), e]
      rw [if_neg (by omega)]
      simp
      congr 1 <;> omega
theorem dec_head : ∀ (n u : Nat), u < n → 1 ≤ u → ∃ c l, Lib.decDigits u = c :: l ∧ dg c = true ∧ c ≠ 48
  | 0, u, h, _ => by omega
  | n + 1, u, h, h1 => by
    by_cases h2 : u < 10
    · have e := dgt u h2
      refine ⟨UInt8.ofNat (48 + u), [], by rw [Lib.decDigits, dif_pos h2], by simp [dg, e]; omega, fun c => ?_⟩
      rw [c] at e
      have : (48 : UInt8).toNat = 48 := rfl
      omega
    · obtain ⟨c, l, e1, e2, e3⟩ := dec_head n (u / 10) (by omega) (by omega)
      exact ⟨c, l ++ [UInt8.ofNat (48 + u % 10)], by rw [Lib.decDigits, dif_neg h2, e1]; rfl, e2, e3⟩
theorem dec_first (u : Nat) : ∃ c l, Lib.decDigits u = c :: l ∧ dg c = true ∧ (c = 48 → l = []) := by
  by_cases h : 1 ≤ u
  · obtain ⟨c, l, e1, e2, e3⟩ := dec_head (u + 1) u (by omega) h
    exact ⟨c, l, e1, e2, fun c => absurd c e3⟩
  · obtain rfl : u = 0 := by omega
    exact ⟨48, [], by rw [Lib.decDigits, dif_pos (by omega)]; rfl, by decide, fun _ => rfl⟩
theorem dg_not {c : UInt8} (h : dg c = true) : lw c = false ∧ skp false (c :: ([] : List UInt8)) = 0 := by
  unfold dg at h
  simp at h
  refine ⟨by simp [lw]; omega, skp_none _ (by omega) (by omega)⟩
theorem rd_num (u : Nat) (hu : u ≤ 1125899906842624) (X : List UInt8) : rd (Lib.decDigits u ++ 32 :: X) = ⟨0, ⟨2, txt [], u⟩, (Lib.decDigits u).length⟩ := by
  obtain ⟨c, l, hd, hc, h48⟩ := dec_first u
  have hb : bgn (Lib.decDigits u ++ 32 :: X) = 2 := by rw [hd, List.cons_append, bgn_cons, (dg_not hc).1, if_neg (by simp), if_pos hc]
  have hn : numF (Lib.decDigits u ++ 32 :: X) 0 0 = some (u, (Lib.decDigits u).length) := by
    rw [numF_dec (u + 1) u (by omega) hu]
    rw [numF_cons, if_neg (by decide)]
    simp
  unfold rd
  rw [hb, if_neg (by omega), if_neg (by omega), if_pos rfl]
  unfold rdN
  rw [hn]
  simp only
  rw [if_neg]
  rintro (⟨h1, h2⟩ | h)
  · rw [hd] at h1 h2
    simp at h1 h2
    have := h48 h1
    subst this
    simp at h2
  · rw [List.drop_left] at h
    simp at h
    exact absurd h (by decide)
theorem ib_skip (c : UInt8) : ∀ (b Y : List UInt8), c ∉ b → Lib.indexByte (b ++ c :: Y) c = b.length
  | [], Y, _ => by simp [Lib.indexByte]
  | x :: b, Y, h => by
    have hx : (x == c) = false := by simp at h ⊢; exact fun e => h.1 e.symm
    have ih := ib_skip c b Y (fun hm => h (by simp [hm]))
    rw [List.cons_append, Lib.indexByte, hx, ih]
    have : ((b.length : Int) == -1) = false := by simp
    simp [this]
theorem rd_str {s : ByteArray} (h : (34 : UInt8) ∉ s.data.toList) (hs : s.size ≤ 20) (X : List UInt8) : rd (34 :: (s.data.toList ++ [34]) ++ 32 :: X) = ⟨0, ⟨3, s, 0⟩, s.data.toList.length + 2⟩ := by
  have e : 34 :: (s.data.toList ++ [34]) ++ 32 :: X = 34 :: (s.data.toList ++ 34 :: (32 :: X)) := by simp
  have hl : s.data.toList.length = s.size := by simp
  rw [e]
  have hb : bgn (34 :: (s.data.toList ++ 34 :: (32 :: X))) = 3 := by rw [bgn_cons, if_neg (by decide), if_neg (by decide), if_pos rfl]
  unfold rd
  rw [hb, if_neg (by omega), if_neg (by omega), if_neg (by omega), if_pos rfl]
  unfold rdS
  rw [List.drop_succ_cons, List.drop_zero, ib_skip 34 _ _ h, if_neg (by omega), if_neg (by omega)]
  simp [txt_of]
theorem rd_mark {b : List UInt8} (h : b ∈ mkl) (X : List UInt8) : rd (b ++ 32 :: X) = ⟨0, ⟨4, txt b, 0⟩, b.length⟩ ∧ ∃ c l, b = c :: l ∧ skp false (c :: ([] : List UInt8)) = 0 := by
  simp [mkl] at h
  rcases h with rfl | rfl | rfl | rfl | rfl | rfl | rfl | rfl | rfl | rfl | rfl | rfl | rfl | rfl | rfl | rfl | rfl
  all_goals
    refine ⟨?_, _, _, rfl, by decide⟩
    simp [rd, rdM, bgn_cons, lw, dg, fmk, mkl, Lib.hasPrefix, List.isPrefixOf]
theorem txt_nil {s : ByteArray} (h : s.data.toList = []) : s = txt [] := by rw [← h, txt_of]
theorem rd_shw {t : Tk} (h : tchk t = 0) (X : List UInt8) : rd (shw t ++ 32 :: X) = ⟨0, t, (shw t).length⟩ ∧ ∃ c l, shw t = c :: l ∧ skp false (c :: ([] : List UInt8)) = 0 := by
  obtain ⟨k, s, n⟩ := t
  unfold shw
  rcases fine h with ⟨h1, h2, h3⟩ | ⟨h1, h2, h3, h4⟩ | ⟨h1, h2, h3, h4⟩ | ⟨h1, h2, h3⟩
  · simp only at h1 h2 h3
    subst h1 h2
    simp only
    rw [if_neg (by omega), if_neg (by omega)]
    obtain ⟨c, l, hd, hc, _⟩ := word_bytes h3
    exact ⟨rd_word h3 X, c, l, hd, (lw_not hc).2⟩
  · simp only at h1 h2 h3 h4
    subst h1
    simp only [if_true]
    obtain ⟨u, rfl⟩ := Int.eq_ofNat_of_zero_le h3
    have e : Lib.itoa (u : Int) = Lib.decDigits u := by unfold Lib.itoa; rw [if_neg (by omega)]; simp
    rw [e, txt_nil h2]
    obtain ⟨c, l, hd, hc, _⟩ := dec_first u
    exact ⟨rd_num u (by omega) X, c, l, hd, (dg_not hc).2⟩
  · simp only at h1 h2 h3 h4
    subst h1 h2
    simp only [if_true]
    rw [if_neg (by omega)]
    refine ⟨?_, 34, _, rfl, by decide⟩
    rw [rd_str h3 h4 X]
    simp
  · simp only at h1 h2 h3
    subst h1 h2
    simp only
    rw [if_neg (by omega), if_neg (by omega)]
    have := rd_mark h3 X
    rw [txt_of] at this
    exact this
theorem skd_shw {t : Tk} (h : tchk t = 0) (Y : List UInt8) : skd (shw t ++ Y) = shw t ++ Y := by
  obtain ⟨_, c, l, e, hs⟩ := rd_shw h []
  unfold skd
  rw [e, List.cons_append, skp_first c _ hs]
  rfl
theorem skd_32 (Y : List UInt8) : skd (32 :: Y) = skd Y := by
  unfold skd
  have : skp false (32 :: Y) = skp false Y + 1 := by simp [skp]
  rw [this, List.drop_succ_cons]
theorem run_cat {N : Nat} {xs : List Tk} (ha : ∀ t ∈ xs, tchk t = 0) {T : List UInt8} {ts : List Tk} {p : Nat} {e : Int} (hr : Run N (skd T) ts p e) : Run N (skd (cat xs ++ T)) (xs ++ ts) p e := by
  induction xs with
  | nil => exact hr
  | cons t xs ih =>
    have h1 := ha t (by simp)
    have ih := ih (fun x hx => ha x (by simp [hx]))
    have e1 : cat (t :: xs) ++ T = shw t ++ 32 :: (cat xs ++ T) := by simp [cat]
    obtain ⟨hrd, c, l, hc, _⟩ := rd_shw h1 (cat xs ++ T)
    rw [e1, skd_shw h1]
    have hne : shw t ++ 32 :: (cat xs ++ T) ≠ [] := by rw [hc]; simp
    have := Run.step (N := N) (shw t ++ 32 :: (cat xs ++ T)) (xs ++ ts) p e hne (by rw [hrd]) (by rw [hrd, hc]; simp) (by rw [hrd]; simp) (by
      rw [hrd]
      simp only
      rw [List.drop_left, skd_32]
      exact ih)
    rw [hrd] at this
    exact this
end Go.Proofs.YtggfaglfchepfaaDoor
