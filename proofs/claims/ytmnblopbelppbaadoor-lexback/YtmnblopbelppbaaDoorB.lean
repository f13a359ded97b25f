/-
  A strings.Builder of the call's own: bytes and texts are written to it.
-/
import Derived.Test.YtmnblopbelppbaaDoorO
import Derived.Test.YtmnblopbelppbaaDoorSh
namespace Go.Proofs.YtmnblopbelppbaaDoor
open Go.ChangeShapes Go.WideShapes Go.ChangeAt Go.RowKit Go.Maps Go.Deep
set_option linter.unusedVariables false
set_option linter.unusedSimpArgs false
abbrev Bld (B b : Nat) (l : List UInt8) (w : World) : Prop := Lib.IsBuilderF 54 5 B b (Lib.byteCells l) w
abbrev BldU (B b : Nat) (l : List UInt8) (w : World) : Prop := Lib.BuilderAtF 54 5 B b (.pointer (some ⟨b, 0, none⟩)) (Lib.byteCells l) w
theorem bSize : (Tryd.prog.info? 54).map (·.size) = some 2 := by kernel_rfl
theorem bLies : liesAt Tryd.prog Tryd.prog.depth 54 (2 / Tryd.prog.cellsOf 54) 0 54 1 = true := by kernel_rfl
set_option maxHeartbeats 2000000 in
set_option maxRecDepth 100000 in
theorem bcheck_new (b : Nat) (w : World) (h0 : w.cell? ⟨b, 0, none⟩ = some (.pointer none)) (hsh : w.shape? b = some (54, 2)) (hfz : w.frozen? ⟨b, 0, none⟩ = false) :
    Calls Tryd.prog 52 #[.pointer (some ⟨b, 0, none⟩)] w fun e w' => e = .returned (.tuple #[]) ∧ w' = w.setCell ⟨b, 0, none⟩ (.pointer (some ⟨b, 0, none⟩)) := by
  obtain ⟨j, hj, hjs⟩ := Option.map_eq_some_iff.1 bSize
  have u1 := Lib.run_to_unsafe (P := Tryd.prog) w ⟨b, 0, none⟩ Tryd.underlying52 Tryd.underlying75 hj (by rw [hjs]; decide) hsh (Nat.zero_lt_succ 1)
  have u3 := Lib.run_from_unsafe (P := Tryd.prog) w ⟨b, 0, none⟩ Tryd.underlying75 Tryd.underlying52 hj hsh bLies
  have u2 : ∀ W, (callFunc 59 #[.pointer (some ⟨b, 0, none⟩)]).run Tryd.prog W = .ok (.value (.pointer (some ⟨b, 0, none⟩))) W := fun W => by
    rw [run_callFunc_extern Tryd.func59 (by kernel_rfl) (by kernel_rfl) (by kernel_rfl) (e := Extern.AbiNoEscape.same) (by kernel_rfl), Lib.run_noEscape]
    rfl
  go_enter Tryd.func52, Tryd.ntmps52
  go_wp2
  go_returns
  exact ⟨rfl, rfl⟩
set_option maxHeartbeats 2000000 in
theorem bcheck_used (b : Nat) (w : World) (h0 : w.cell? ⟨b, 0, none⟩ = some (.pointer (some ⟨b, 0, none⟩))) :
    Calls Tryd.prog 52 #[.pointer (some ⟨b, 0, none⟩)] w fun e w' => e = .returned (.tuple #[]) ∧ w' = w := by
  obtain ⟨j, hj, hjs⟩ := Option.map_eq_some_iff.1 bSize
  have u1 := Lib.run_neq_ptr_same (P := Tryd.prog) w ⟨b, 0, none⟩ Tryd.underlying52 hj
  clear hj hjs
  go_enter Tryd.func52, Tryd.ntmps52
  go_wp2
  go_returns
  exact ⟨rfl, rfl⟩
theorem bcheck_any (B b : Nat) (l : List UInt8) (w : World) (h : Bld B b l w) :
    Calls Tryd.prog 52 #[.pointer (some ⟨b, 0, none⟩)] w fun e w' => e = .returned (.tuple #[]) ∧ BldU B b l w' ∧ Below B w w' := by
  rcases h with h | h
  · refine (bcheck_new b w h.cell0 h.shape h.frozen0).mono ?_
    rintro e w' ⟨rfl, rfl⟩
    exact ⟨rfl, h.used _, (Below.refl B w).setCell (p := ⟨b, 0, none⟩) h.1 _⟩
  · refine (bcheck_used b w h.cell0).mono ?_
    rintro e w' ⟨rfl, rfl⟩
    exact ⟨rfl, h, Below.refl B _⟩
theorem infoB : (Tryd.prog.info? 5).map (fun i => (i.zero, i.size, i.bytes)) = some (some (.int .u8 0), 1, 1) := by kernel_rfl
theorem lt_of_heap {w : World} {b : Nat} {o : Obj} (h : w.heap[b]? = some o) : b < w.heap.size := (Array.getElem?_eq_some_iff.1 h).1
set_option maxHeartbeats 2000000 in
theorem writeString_any (B b : Nat) (l : List UInt8) (x : ByteArray) (w : World) (h : Bld B b l w) (hl : l.length + x.size ≤ 140737488355328) (hBw : B ≤ w.heap.size) :
    Calls Tryd.prog 31 #[.pointer (some ⟨b, 0, none⟩), .string x] w fun e w' => e = .returned (.tuple #[.int .i64 x.size, .nilIface]) ∧ Bld B b (l ++ x.data.toList) w' ∧ Below B w w' := by
  obtain ⟨i0, hi, hz0, hz1, hz2⟩ := info_parts infoB
  have HI : Hid (Tryd.prog.info? 5 = some i0 ∧ i0.zero = some (.int .u8 0) ∧ i0.size = 1 ∧ i0.bytes = 1) := ⟨hi, hz0, hz1, hz2⟩
  have HC : Hid (∀ W, W = w → Calls Tryd.prog 52 #[.pointer (some ⟨b, 0, none⟩)] W fun e w' => e = .returned (.tuple #[]) ∧ BldU B b l w' ∧ Below B w w') := fun W hW => by subst hW; exact bcheck_any B b l W h
  have HL : Hid (l.length + x.size ≤ 140737488355328) := hl
  have HBW : Hid (B ≤ w.heap.size) := hBw
  clear hi hz0 hz1 hz2 h hl hBw
  go_enter Tryd.func31, Tryd.ntmps31
  go_wp2_with (go_at_call 52; refine (HC.out _ rfl).mono ?_)
  rintro e w1 ⟨rfl, h1, hb1⟩
  obtain ⟨hB, v, hbk, hown, hne⟩ := h1
  have c1 : w1.cell? ⟨b, 1, none⟩ = some v := by rw [Lib.cell_of_heap hbk]; rfl
  rw [Lib.byteCells_length] at hown
  have HO : Hid (w1.ownsRowF B 5 1 v l.length (Lib.byteCells l)) := hown
  have HK : Hid (w1.heap[b]? = some (.cells #[.pointer (some ⟨b, 0, none⟩), v] 54 (0, 0)) ∧ v.ownBlock ≠ some b ∧ B ≤ b) := ⟨hbk, hne, hB⟩
  have HB1 : Hid (Below B w w1) := hb1
  obtain ⟨pu, nu, cu, rfl⟩ : ∃ p n c, v = .slice p n c := by
    rcases hown.2 with ⟨hv, _⟩ | ⟨g, cap, cur, fz, hv, _⟩
    · exact ⟨_, _, _, hv⟩
    · exact ⟨_, _, _, hv⟩
  clear hbk hown hne hB hb1 HC
  go_wp2_with (at_builtin; go_loud (refine Lib.wpList_append_own_stringF _ rfl _ _ 39 9 rfl B 5 i0 Tryd.underlying39 Tryd.underlying9 HI.out.1 HI.out.2.1 HI.out.2.2.1 HI.out.2.2.2 _ _ _ rfl HO.out x rfl (by unfold maxLen; have := HL.out; omega) (by have := HL.out; omega) (by have := HB1.out.size; have := HBW.out; omega) ?_); intro v' w2 hown' hgrow _; have hb2 : w2.heap[b]? = some (.cells #[.pointer (some ⟨b, 0, none⟩), .slice pu nu cu] 54 (0, 0)) := by { rw [hgrow.block b (lt_of_heap HK.out.1) (fun e => HK.out.2.1 e.symm)]; exact HK.out.1 }; have d1 : w2.cell? ⟨b, 1, none⟩ = some (.slice pu nu cu) := by { rw [Lib.cell_of_heap hb2]; rfl }; have f1 : w2.frozen? ⟨b, 1, none⟩ = false := Lib.frozen_of_heap hb2 1; have HO2 : Hid (w2.ownsRowF B 5 1 v' (l.length + x.size) (Lib.byteCells l ++ Lib.strCells x)) := hown'; have HB2 : Hid (Below B w w2) := HB1.out.grown hgrow (by have := HB1.out.size; have := HBW.out; omega) (fun k hk => (HO.out.lt k hk).1); have HH2 : Hid (w2.heap[b]? = some (.cells #[.pointer (some ⟨b, 0, none⟩), .slice pu nu cu] 54 (0, 0))) := hb2; obtain ⟨pv, nv, cv, hvv⟩ : ∃ p n c, v' = .slice p n c := by { rcases hown'.2 with ⟨hv, _⟩ | ⟨g, cap, cur, fz, hv, _⟩; exact ⟨_, _, _, hv⟩; exact ⟨_, _, _, hv⟩ }; subst hvv; clear hown' hgrow hb2)
  go_ret2
  refine ⟨rfl, Or.inr ?_, HB2.out.setCell (p := ⟨b, 1, none⟩) HK.out.2.2 _⟩
  exact Lib.BuilderAtF.put (T := 54) (e := 5) HK.out.2.2 HH2.out (bs' := Lib.byteCells (l ++ x.data.toList)) (by
    have := HO2.out
    simpa [Lib.byteCells, Lib.strCells, List.map_append] using this) (by decide)
theorem byte_new (w : World) (c : Int) : ∀ (j : Nat) (u : Value), [Value.int .u8 c][j]? = some u → (w.alloc (.cells #[.int .u8 c] 5)).cell? ((⟨w.heap.size, 0, none⟩ : Addr).add j) = some u := by
  intro j u hj
  match j, hj with
  | 0, hj => simp at hj; subst hj; simp [Addr.add]
set_option maxHeartbeats 2000000 in
theorem writeByte_any (B b : Nat) (l : List UInt8) (x : UInt8) (w : World) (h : Bld B b l w) (hl : l.length + 1 ≤ 140737488355328) (hBw : B ≤ w.heap.size) :
    Calls Tryd.prog 33 #[.pointer (some ⟨b, 0, none⟩), .int .u8 (x.toNat : Int)] w fun e w' => e = .returned .nilIface ∧ Bld B b (l ++ [x]) w' ∧ Below B w w' := by
  obtain ⟨i0, hi, hz0, hz1, hz2⟩ := info_parts infoB
  have HI : Hid (Tryd.prog.info? 5 = some i0 ∧ i0.zero = some (.int .u8 0) ∧ i0.size = 1 ∧ i0.bytes = 1) := ⟨hi, hz0, hz1, hz2⟩
  have HC : Hid (∀ W, W = w → Calls Tryd.prog 52 #[.pointer (some ⟨b, 0, none⟩)] W fun e w' => e = .returned (.tuple #[]) ∧ BldU B b l w' ∧ Below B w w') := fun W hW => by subst hW; exact bcheck_any B b l W h
  have HL : Hid (l.length + 1 ≤ 140737488355328) := hl
  have HBW : Hid (B ≤ w.heap.size) := hBw
  clear hi hz0 hz1 hz2 h hl hBw
  go_enter Tryd.func33, Tryd.ntmps33
  go_wp2_with (go_at_call 52; refine (HC.out _ rfl).mono ?_)
  rintro e w1 ⟨rfl, h1, hb1⟩
  obtain ⟨hB, v, hbk, hown, hne⟩ := h1
  have c1 : w1.cell? ⟨b, 1, none⟩ = some v := by rw [Lib.cell_of_heap hbk]; rfl
  rw [Lib.byteCells_length] at hown
  have HO : Hid (w1.ownsRowF B 5 1 v l.length (Lib.byteCells l)) := hown
  have HK : Hid (w1.heap[b]? = some (.cells #[.pointer (some ⟨b, 0, none⟩), v] 54 (0, 0)) ∧ v.ownBlock ≠ some b ∧ B ≤ b) := ⟨hbk, hne, hB⟩
  have HB1 : Hid (Below B w w1) := hb1
  obtain ⟨pu, nu, cu, rfl⟩ : ∃ p n c, v = .slice p n c := by
    rcases hown.2 with ⟨hv, _⟩ | ⟨g, cap, cur, fz, hv, _⟩
    · exact ⟨_, _, _, hv⟩
    · exact ⟨_, _, _, hv⟩
  clear hbk hown hne hB hb1 HC
  go_wp2_with (at_builtin; go_loud (refine wpList_append_ownF _ rfl _ _ 39 rfl B 5 i0 (.int .u8 0) 1 1 Tryd.underlying39 HI.out.1 HI.out.2.1 HI.out.2.2.1 HI.out.2.2.2 rfl (by decide) _ _ _ rfl (HO.out.alloc _) ⟨w1.heap.size, 0, none⟩ 1 1 [.int .u8 (x.toNat : Int)] rfl rfl (byte_new _ _) (by intro u hu; simp at hu; subst hu; rfl) (by unfold maxLen; have := HL.out; omega) (by have := HL.out; omega) (by have := HB1.out.size; have := HBW.out; simp; omega) ?_); intro v' w2 hown' hgrow _; have hb2 : w2.heap[b]? = some (.cells #[.pointer (some ⟨b, 0, none⟩), .slice pu nu cu] 54 (0, 0)) := by { rw [hgrow.block b (by have := lt_of_heap HK.out.1; simp; omega) (fun e => HK.out.2.1 e.symm), Lib.alloc_old w1 _ b (lt_of_heap HK.out.1)]; exact HK.out.1 }; have d1 : w2.cell? ⟨b, 1, none⟩ = some (.slice pu nu cu) := by { rw [Lib.cell_of_heap hb2]; rfl }; have f1 : w2.frozen? ⟨b, 1, none⟩ = false := Lib.frozen_of_heap hb2 1; have HO2 : Hid (w2.ownsRowF B 5 1 v' (l.length + 1) (Lib.byteCells l ++ [.int .u8 (x.toNat : Int)])) := hown'; have HB2 : Hid (Below B w w2) := (HB1.out.alloc (by have := HB1.out.size; have := HBW.out; omega) _).grown hgrow (by have := HB1.out.size; have := HBW.out; simp; omega) (fun k hk => (HO.out.lt k hk).1); have HH2 : Hid (w2.heap[b]? = some (.cells #[.pointer (some ⟨b, 0, none⟩), .slice pu nu cu] 54 (0, 0))) := hb2; obtain ⟨pv, nv, cv, hvv⟩ : ∃ p n c, v' = .slice p n c := by { rcases hown'.2 with ⟨hv, _⟩ | ⟨g, cap, cur, fz, hv, _⟩; exact ⟨_, _, _, hv⟩; exact ⟨_, _, _, hv⟩ }; subst hvv; clear hown' hgrow hb2)
  go_ret
  refine ⟨rfl, Or.inr ?_, HB2.out.setCell (p := ⟨b, 1, none⟩) HK.out.2.2 _⟩
  exact Lib.BuilderAtF.put (T := 54) (e := 5) HK.out.2.2 HH2.out (bs' := Lib.byteCells (l ++ [x])) (by
    have := HO2.out
    simpa [Lib.byteCells, Lib.strCells, List.map_append] using this) (by decide)
end Go.Proofs.YtmnblopbelppbaaDoor
