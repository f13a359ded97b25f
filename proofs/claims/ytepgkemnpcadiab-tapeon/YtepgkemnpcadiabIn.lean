/-
  An operation of raw numbers.
-/
import Derived.Test.YtepgkemnpcadiabRf
import Derived.Test.YtepgkemnpcadiabZp
import Derived.Deep.Cut
import Derived.Deep.CutBlock
namespace Go.Proofs.Ytepgkemnpcadiab
open Go.ChangeShapes Go.WideShapes Go.ChangeAt Go.RowKit Go.Maps
set_option linter.unusedVariables false
set_option linter.unusedSimpArgs false
set_option maxRecDepth 20000
theorem op_max0 {P : Program} {o : Oper} {a : Act} {W : World} {K : Act → World → Prop} {Q : Exit → Act → World → Prop} (x : Operand) (T U : TypeId) (D : Int) (ho : o.op = .call { callee := .builtin .max, args := #[x, .const (.int .i64 0)], argTypes := #[T, U] }) (hx : a.eval x = .int .i64 D) (hk : K (a.put o.dst (.int .i64 (if D < 0 then 0 else D))) W) : Oper.wp P o a W K Q := by
  refine op_val _ ?_ hk
  unfold execOp
  simp only [ho, resolve, invoke, builtin, Sem.run_bind, Sem.run_pure, Result.andThen_ok, List.map_toArray, List.map_cons, List.map_nil, hx, ev_c]
  by_cases h : D < 0
  · simp [Builtin.max_, Builtin.max2, h, go_sem]
  · simp [Builtin.max_, Builtin.max2, h, go_sem]
def insM (lo at_ : Int) : Int := if at_ - pk lo 9 < 0 then 0 else at_ - pk lo 9
def insV (ty n : Int) (tx : ByteArray) : List Vl := if pk ty 4 = 2 then [] else if pk ty 4 = 1 then [⟨1, pk n 6, ⟨#[]⟩⟩, ⟨2, 0, cutT tx 3⟩] else [⟨1, pk n 6, ⟨#[]⟩⟩]
def insO (ty lo n : Int) (tx : ByteArray) (at_ : Int) : Opn := ⟨1, tyN (pk ty 4).toNat, insM lo at_, at_, insV ty n tx, 0, false⟩
theorem ent_cut : ∀ args w, (callFunc 27 args).run Try.prog w = .ok (.enter 27 args) w := enters_of Try.func27 (by kernel_rfl) rfl
theorem ent_pik2 : ∀ args w, (callFunc 11 args).run Try.prog w = .ok (.enter 11 args) w := enters_of Try.func11 (by kernel_rfl) rfl
set_option maxHeartbeats 32000000 in
theorem insert_any (ki ty lo n de : Int) (tx : ByteArray) (co : Bool) (at_ : Int) (ht1 : -9223372036854775808 ≤ ty) (ht2 : ty ≤ 9223372036854775807) (hl1 : -9223372036854775808 ≤ lo) (hl2 : lo ≤ 9223372036854775807) (hn1 : -9223372036854775808 ≤ n) (hn2 : n ≤ 9223372036854775807) (hs : tx.size ≤ maxLen) (ha1 : 0 ≤ at_) (ha2 : at_ ≤ 1000000) (w : World) :
    Calls Try.prog 54 #[.agg #[.int .i64 ki, .int .i64 ty, .int .i64 lo, .int .i64 n, .int .i64 de, .string tx, .bool co], .int .i64 at_] w fun e w' => ∃ v, e = .returned (opv (insO ty lo n tx at_) v) ∧ VO w' (w.heap.size + 2) v (insV ty n tx) ∧ Below w.heap.size w w' := by
  have HP1 := hid (fun W => picked_any ty 4 W ht1 ht2 (by decide) (by decide))
  have HP2 := hid (fun W => picked_any lo 9 W hl1 hl2 (by decide) (by decide))
  have HP3 := hid (fun W => picked_any n 6 W hn1 hn2 (by decide) (by decide))
  have HCU := hid (fun W => cut_any tx 3 (by decide) hs W)
  have hq := pk_bd ty 4 (by decide)
  have hp := pk_bd lo 9 (by decide)
  unfold insO insV insM opv
  obtain ⟨q9, hq9⟩ : ∃ z, pk ty 4 = z := ⟨_, rfl⟩
  obtain ⟨p9, hp9⟩ : ∃ z, pk lo 9 = z := ⟨_, rfl⟩
  obtain ⟨n9, hn9⟩ : ∃ z, pk n 6 = z := ⟨_, rfl⟩
  rw [hq9] at HP1 hq ⊢
  rw [hp9] at HP2 hp ⊢
  rw [hn9] at HP3 ⊢
  obtain ⟨j, rfl⟩ : ∃ j : Nat, q9 = (j : Int) := ⟨q9.toNat, by omega⟩
  have hj : j < 4 := by omega
  rw [Int.toNat_natCast]
  have hw : IntKind.i64.wrap (at_ - p9) = at_ - p9 := IntWalk.i64_in _ (by omega)
  obtain ⟨D, hD⟩ : ∃ z, at_ - p9 = z := ⟨_, rfl⟩
  rw [hD] at hw ⊢
  obtain ⟨M, hM⟩ : ∃ z, (if D < 0 then (0 : Int) else D) = z := ⟨_, rfl⟩
  rw [hM]
  have HB := hid (bxs2 w [.int .i64 ki, .int .i64 ty, .int .i64 lo, .int .i64 n, .int .i64 de, .string tx, .bool co] [.int .i64 0, .string ⟨#[]⟩, .int .i64 0, .int .i64 0, .slice none 0 0, .int .i64 0, .bool false] 37 44)
  have HJ := hid hj
  have HWD := hid (And.intro hw (And.intro hD hM))
  clear hq9 hp9 hn9 hq hp hw hD hM ht1 ht2 hl1 hl2 hn1 hn2 hs ha1 ha2
  go_enter Try.func54, Try.ntmps54
  go_upto_region 1 with fail
  generalize hWB : (w.alloc (.cells #[.int .i64 ki, .int .i64 ty, .int .i64 lo, .int .i64 n, .int .i64 de, .string tx, .bool co] 37)).alloc (.cells #[.int .i64 0, .string ⟨#[]⟩, .int .i64 0, .int .i64 0, .slice none 0 0, .int .i64 0, .bool false] 44) = WB at HB ⊢
  clear hWB
  have HD : Hid (WB.heap[w.heap.size]? = some (.cells #[.int .i64 ki, .int .i64 ty, .int .i64 lo, .int .i64 n, .int .i64 de, .string tx, .bool co] 37 (0, 0))) := HB.out.b 0 (by simp)
  have HO : Hid (WB.heap[w.heap.size + 1]? = some (.cells #[.int .i64 0, .string ⟨#[]⟩, .int .i64 0, .int .i64 0, .slice none 0 0, .int .i64 0, .bool false] 44 (0, 0))) := HB.out.b 1 (by simp)
  have HBB := hid HB.out.bel
  clear HB
  have d1 : WB.cell? ⟨w.heap.size, 1, none⟩ = some (.int .i64 ty) := by rw [cell_of_blk HD.out]; rfl
  go_upto_region 2 with (go_at_call 11; refine (HP1.out _).mono ?_; rintro e WB ⟨rfl, rfl⟩)
  refine wp_region_st (by kernel_rfl) (fun i w9 v => ([(fun w9 v => ∃ (b9 : Nat), v = .slice (some ⟨b9, 0, none⟩) 4 4 ∧ w9.heap[b9]? = some (.cells #[.string ⟨#[97]⟩, .string ⟨#[98]⟩, .string ⟨#[99]⟩, .string ⟨#[100]⟩] 9 (0, 0))), (fun w9 v => v = .int .i64 (j : Nat)), (fun w9 v => ∃ (b9 : Nat), v = .pointer (some ⟨b9, j, none⟩) ∧ w9.heap[b9]? = some (.cells #[.string ⟨#[97]⟩, .string ⟨#[98]⟩, .string ⟨#[99]⟩, .string ⟨#[100]⟩] 9 (0, 0))), (fun w9 v => v = .string (tyN j)), (fun w9 v => v = .int .i64 at_), (fun w9 v => v = .pointer (some ⟨w.heap.size, 2, none⟩)), (fun w9 v => v = .int .i64 lo), (fun w9 v => v = .int .i64 p9), (fun w9 v => v = .int .i64 D), (fun w9 v => v = .int .i64 M), (fun w9 v => v = .int .i64 at_), (fun w9 v => v = .agg #[.int .i64 M, .int .i64 at_]), (fun w9 v => v = .agg #[.int .i64 1, .string (tyN j), .int .i64 M, .int .i64 at_, .slice none 0 0, .int .i64 0, .bool false]), (fun w9 v => ∃ (b6 : Nat), v = .pointer (some ⟨b6, 0, none⟩) ∧ w9.heap[b6]? = some (.cells #[.int .i64 0, .string ⟨#[]⟩, .int .i64 0, .int .i64 0, .slice none 0 0, .int .i64 0, .bool false] 44 (0, 0)) ∧ w.heap.size + 2 ≤ b6)] : List (World → Value → Prop)).getD i (fun _ _ => True) w9 v) (fun W => Below WB.heap.size WB W) 46 14 rfl rfl [some 10, some 11, some 12, some 13, some 14, some 15, some 16, some 17, some 18, some 19, some 20, some 21, some 22, some 6] (by kernel_rfl) 44 (.tmp 6) (.tmp 22) (by rfl) (by rfl) (by kernel_rfl) (by kernel_rfl) (fun W W' => Below W.heap.size W W') ?hmon (Below.drew (Below.refl _ _)) (AllOps.cons ?o0 (AllOps.cons ?o1 (AllOps.cons ?o2 (AllOps.cons ?o3 (AllOps.cons ?o4 (AllOps.cons ?o5 (AllOps.cons ?o6 (AllOps.cons ?o7 (AllOps.cons ?o8 (AllOps.cons ?o9 (AllOps.cons ?o10 (AllOps.cons ?o11 (AllOps.cons ?o12 (AllOps.cons ?o13 AllOps.nil)))))))))))))) ?hend
  case hmon =>
    intro q W W' v hb h
    rcases q with _ | _ | _ | _ | _ | _ | _ | _ | _ | _ | _ | _ | _ | _ | q
    · obtain ⟨b9, e, h1⟩ := h; exact ⟨b9, e, (hb.block _ (blk_lt h1)).trans h1⟩
    · exact h
    · obtain ⟨b9, e, h1⟩ := h; exact ⟨b9, e, (hb.block _ (blk_lt h1)).trans h1⟩
    · exact h
    · exact h
    · exact h
    · exact h
    · exact h
    · exact h
    · exact h
    · exact h
    · exact h
    · exact h
    · obtain ⟨b6, e, h1, h2⟩ := h; exact ⟨b6, e, (hb.block _ (blk_lt h1)).trans h1, h2⟩
    · exact h
  case o0 =>
    intro a W hB hd ho
    have hal : Below W.heap.size W (W.alloc (.cells #[.string ⟨#[97]⟩, .string ⟨#[98]⟩, .string ⟨#[99]⟩, .string ⟨#[100]⟩] 9)) := (Below.refl _ _).alloc (Nat.le_refl _) _
    refine op_bs 101 4 _ rfl #[(0, .string ⟨#[97]⟩), (1, .string ⟨#[98]⟩), (2, .string ⟨#[99]⟩), (3, .string ⟨#[100]⟩)] (by simp [ev_c]) (.slice (some ⟨W.heap.size, 0, none⟩) 4 4) (W.alloc (.cells #[.string ⟨#[97]⟩, .string ⟨#[98]⟩, .string ⟨#[99]⟩, .string ⟨#[100]⟩] 9)) (by kernel_rfl) ⟨_, rfl, ⟨W.heap.size, rfl, heap_alloc_new _ _⟩, below_trans hB hal hB.size, hal⟩
  case o1 =>
    intro a W hB hd ho
    have e5 : a.eval (.tmp 5) = .int .i64 (j : Nat) := ho 5 (by kernel_rfl)
    exact op_mv _ (by simp) _ e5 ⟨_, rfl, rfl, hB, Below.refl _ _⟩
  case o2 =>
    intro a W hB hd ho
    obtain ⟨b9, e10, h1⟩ : ∃ (b9 : Nat), a.eval (.tmp 10) = .slice (some ⟨b9, 0, none⟩) 4 4 ∧ W.heap[b9]? = some (.cells #[.string ⟨#[97]⟩, .string ⟨#[98]⟩, .string ⟨#[99]⟩, .string ⟨#[100]⟩] 9 (0, 0)) := hd 0 10 (by kernel_rfl)
    have e11 : a.eval (.tmp 11) = .int .i64 (j : Nat) := hd 1 11 (by kernel_rfl)
    have hj := HJ.out
    exact op_val (.pointer (some ⟨b9, j, none⟩)) (by unfold execOp; simp only [ev_c, e10, e11]; go_simp; intro h0; exact absurd h0 (by omega)) ⟨_, rfl, ⟨b9, rfl, h1⟩, hB, Below.refl _ _⟩
  case o3 =>
    intro a W hB hd ho
    obtain ⟨b9, e12, h1⟩ : ∃ (b9 : Nat), a.eval (.tmp 12) = .pointer (some ⟨b9, j, none⟩) ∧ W.heap[b9]? = some (.cells #[.string ⟨#[97]⟩, .string ⟨#[98]⟩, .string ⟨#[99]⟩, .string ⟨#[100]⟩] 9 (0, 0)) := hd 2 12 (by kernel_rfl)
    have c9 : W.cell? ⟨b9, j, none⟩ = some (.string (tyN j)) := by
      rw [cell_of_blk h1]
      have hj := HJ.out
      rcases (by omega : j = 0 ∨ j = 1 ∨ j = 2 ∨ j = 3) with rfl | rfl | rfl | rfl <;> rfl
    exact op_val (.string (tyN j)) (by unfold execOp; simp only [ev_c, e12]; go_simp) ⟨_, rfl, rfl, hB, Below.refl _ _⟩
  case o4 =>
    intro a W hB hd ho
    have e1 : a.eval (.tmp 1) = .int .i64 at_ := ho 1 (by kernel_rfl)
    exact op_mv _ (by simp) _ e1 ⟨_, rfl, rfl, hB, Below.refl _ _⟩
  case o5 =>
    intro a W hB hd ho
    have e2 : a.eval (.tmp 2) = .pointer (some ⟨w.heap.size, 0, none⟩) := ho 2 (by kernel_rfl)
    exact op_val (.pointer (some ⟨w.heap.size, 2, none⟩)) (by unfold execOp; simp only [ev_c, e2]; go_simp) ⟨_, rfl, rfl, hB, Below.refl _ _⟩
  case o6 =>
    intro a W hB hd ho
    have e15 : a.eval (.tmp 15) = .pointer (some ⟨w.heap.size, 2, none⟩) := hd 5 15 (by kernel_rfl)
    have c9 : W.cell? ⟨w.heap.size, 2, none⟩ = some (.int .i64 lo) := by
      rw [cell_of_blk ((hB.block _ (blk_lt HD.out)).trans HD.out)]
      rfl
    exact op_val (.int .i64 lo) (by unfold execOp; simp only [ev_c, e15]; go_simp) ⟨_, rfl, rfl, hB, Below.refl _ _⟩
  case o7 =>
    intro a W hB hd ho
    have e16 : a.eval (.tmp 16) = .int .i64 lo := hd 6 16 (by kernel_rfl)
    refine op_cl 11 ent_pik2 _ _ rfl #[.int .i64 lo, .int .i64 9] (by simp [ev_c, e16]) _ (HP2.out W) ?_
    rintro e W' ⟨rfl, rfl⟩
    exact ⟨_, rfl, _, rfl, rfl, hB, Below.refl _ _⟩
  case o8 =>
    intro a W hB hd ho
    have e14 : a.eval (.tmp 14) = .int .i64 at_ := hd 4 14 (by kernel_rfl)
    have e17 : a.eval (.tmp 17) = .int .i64 p9 := hd 7 17 (by kernel_rfl)
    have hw := HWD.out.1
    have hD := HWD.out.2.1
    exact op_val (.int .i64 D) (by unfold execOp; simp only [ev_c, List.map_toArray, List.map_cons, List.map_nil, Option.map_some, Option.map_none, e14, e17]; go_simp <;> first | (rw [hD]; exact hw) | exact hw) ⟨_, rfl, rfl, hB, Below.refl _ _⟩
  case o9 =>
    intro a W hB hd ho
    have e18 : a.eval (.tmp 18) = .int .i64 D := hd 8 18 (by kernel_rfl)
    have hM := HWD.out.2.2
    refine op_max0 _ _ _ D rfl e18 ?_
    rw [hM]
    exact ⟨_, rfl, rfl, hB, Below.refl _ _⟩
  case o10 =>
    intro a W hB hd ho
    have e1 : a.eval (.tmp 1) = .int .i64 at_ := ho 1 (by kernel_rfl)
    exact op_mv _ (by simp) _ e1 ⟨_, rfl, rfl, hB, Below.refl _ _⟩
  case o11 =>
    intro a W hB hd ho
    have e19 : a.eval (.tmp 19) = .int .i64 M := hd 9 19 (by kernel_rfl)
    have e20 : a.eval (.tmp 20) = .int .i64 at_ := hd 10 20 (by kernel_rfl)
    exact op_bd 41 _ rfl #[(0, .int .i64 M), (1, .int .i64 at_)] (by simp [ev_c, e19, e20]) (.agg #[.int .i64 M, .int .i64 at_]) (by kernel_rfl) ⟨_, rfl, rfl, hB, Below.refl _ _⟩
  case o12 =>
    intro a W hB hd ho
    have e13 : a.eval (.tmp 13) = .string (tyN j) := hd 3 13 (by kernel_rfl)
    have e21 : a.eval (.tmp 21) = .agg #[.int .i64 M, .int .i64 at_] := hd 11 21 (by kernel_rfl)
    exact op_bd 44 _ rfl #[(0, .int .i64 1), (1, .string (tyN j)), (2, .agg #[.int .i64 M, .int .i64 at_])] (by simp [ev_c, e13, e21]) (.agg #[.int .i64 1, .string (tyN j), .int .i64 M, .int .i64 at_, .slice none 0 0, .int .i64 0, .bool false]) (by kernel_rfl) ⟨_, rfl, rfl, hB, Below.refl _ _⟩
  case o13 =>
    intro a W hB hd ho
    have hal : Below W.heap.size W (W.alloc (.cells #[.int .i64 0, .string ⟨#[]⟩, .int .i64 0, .int .i64 0, .slice none 0 0, .int .i64 0, .bool false] 44)) := (Below.refl _ _).alloc (Nat.le_refl _) _
    exact op_al 44 rfl [.int .i64 0, .string ⟨#[]⟩, .int .i64 0, .int .i64 0, .slice none 0 0, .int .i64 0, .bool false] (by kernel_rfl) ⟨_, rfl, ⟨W.heap.size, rfl, heap_alloc_new _ _, by have h8 := blk_lt HO.out; have := hB.size; omega⟩, below_trans hB hal hB.size, hal⟩
  case hend =>
    intro vs W hB hT
    obtain ⟨b6, e13, h6, h6b⟩ : ∃ (b6 : Nat), vs 13 = .pointer (some ⟨b6, 0, none⟩) ∧ W.heap[b6]? = some (.cells #[.int .i64 0, .string ⟨#[]⟩, .int .i64 0, .int .i64 0, .slice none 0 0, .int .i64 0, .bool false] 44 (0, 0)) ∧ w.heap.size + 2 ≤ b6 := hT 13 (by decide)
    have e12 : vs 12 = .agg #[.int .i64 1, .string (tyN j), .int .i64 M, .int .i64 at_, .slice none 0 0, .int .i64 0, .bool false] := hT 12 (by decide)
    refine ⟨b6, 0, [.int .i64 0, .string ⟨#[]⟩, .int .i64 0, .int .i64 0, .slice none 0 0, .int .i64 0, .bool false], 44, .agg #[.int .i64 1, .string (tyN j), .int .i64 M, .int .i64 at_, .slice none 0 0, .int .i64 0, .bool false], [.int .i64 1, .string (tyN j), .int .i64 M, .int .i64 at_, .slice none 0 0, .int .i64 0, .bool false], Eq.trans (b := vs 13) (by kernel_rfl) e13, Eq.trans (b := vs 12) (by kernel_rfl) e12, rfl, h6, by simp, by kernel_rfl, rfl, ?_⟩
    intro w2 hq1 hq2
    have HU2 : Hid (w2.heap[b6]? = some (.cells #[.int .i64 1, .string (tyN j), .int .i64 M, .int .i64 at_, .slice none 0 0, .int .i64 0, .bool false] 44 (0, 0))) := hq1
    have hO := (hB.block _ (blk_lt HO.out)).trans HO.out
    have HO2 := hid (blk_set hO hq2 (by omega))
    have hD2 := (hB.block _ (blk_lt HD.out)).trans HD.out
    have HD2 := hid (blk_set hD2 hq2 (by omega))
    have HB2 : Hid (Below w.heap.size w w2) := below_fr (below_trans HBB.out hB HBB.out.size) hq2 (by omega)
    have H6 := hid h6b
    clear hq1 hq2 hO hD2 h6 h6b hT hB
    simp only [putsD, Act.put, List.setIfInBounds_toArray, e12, e13]
    (try simp only [set_c20])
    simp only [List.set_cons_zero, List.set_cons_succ]
    clear e12 e13
    generalize vs 0 = v0
    generalize vs 1 = v1
    generalize vs 2 = v2
    generalize vs 3 = v3
    generalize vs 4 = v4
    generalize vs 5 = v5
    generalize vs 6 = v6
    generalize vs 7 = v7
    generalize vs 8 = v8
    generalize vs 9 = v9
    generalize vs 10 = v10
    generalize vs 11 = v11
    clear vs
    rcases (by have := HJ.out; omega : j = 2 ∨ j = 1 ∨ j = 0 ∨ j = 3) with rfl | rfl | rfl | rfl
    · skip
      have y0 : w2.cell? ⟨b6, 0, none⟩ = some (.int .i64 1) := by rw [cell_of_blk HU2.out]; rfl
      have y1 : w2.cell? ⟨b6, 1, none⟩ = some (.string (tyN 2)) := by rw [cell_of_blk HU2.out]; rfl
      have y2 : w2.cell? ⟨b6, 2, none⟩ = some (.int .i64 M) := by rw [cell_of_blk HU2.out]; rfl
      have y3 : w2.cell? ⟨b6, 3, none⟩ = some (.int .i64 at_) := by rw [cell_of_blk HU2.out]; rfl
      have y4 : w2.cell? ⟨b6, 4, none⟩ = some (.slice none 0 0) := by rw [cell_of_blk HU2.out]; rfl
      have y5 : w2.cell? ⟨b6, 5, none⟩ = some (.int .i64 0) := by rw [cell_of_blk HU2.out]; rfl
      have y6 : w2.cell? ⟨b6, 6, none⟩ = some (.bool false) := by rw [cell_of_blk HU2.out]; rfl
      go_wp2_with ((with_reducible show wpList _ _ _ (Oper.mk _ (.store 44 _ _) _ _ _ _ :: _) _ _); refine wp_st (by rfl) 44 _ _ (by rfl) (w.heap.size + 1) 0 [.int .i64 0, .string ⟨#[]⟩, .int .i64 0, .int .i64 0, .slice none 0 0, .int .i64 0, .bool false] 44 (.agg #[.int .i64 1, .string (tyN 2), .int .i64 M, .int .i64 at_, .slice none 0 0, .int .i64 0, .bool false]) [.int .i64 1, .string (tyN 2), .int .i64 M, .int .i64 at_, .slice none 0 0, .int .i64 0, .bool false] (by rfl) (by rfl) (by rfl) HO2.out (by simp) (by kernel_rfl) (by rfl) ?_; intro wz hq1 hq2; have HUz := hid hq1; have HFz := hid hq2; clear hq1 hq2)
      have HBz := below_fr HB2.out HFz.out (by omega)
      have hRd : VO wz (w.heap.size + 2) (.slice none 0 0) ([] : List Vl) := VO.nil _ _
      exact ret_loc (w.heap.size + 1) [.int .i64 1, .string (tyN 2), .int .i64 M, .int .i64 at_, .slice none 0 0, .int .i64 0, .bool false] 44 _ HUz.out rfl rfl (by rfl) Try.underlying44 rfl (by kernel_rfl) ⟨_, rfl, hRd, HBz⟩
    · skip
      go_upto_region 4 with fail
      refine wp_region_two (by kernel_rfl) (fun i w9 v => ([(fun w9 v => v = .pointer (some ⟨b6, 4, none⟩)), (fun w9 v => v = .slice none 0 0), (fun w9 v => v = .pointer (some ⟨w.heap.size, 3, none⟩)), (fun w9 v => v = .int .i64 n), (fun w9 v => v = .int .i64 n9), (fun w9 v => v = .agg #[.int .i64 1, .int .i64 n9, .string ⟨#[]⟩]), (fun w9 v => ∃ (b9 : Nat), v = .slice (some ⟨b9, 0, none⟩) 1 1 ∧ w9.heap[b9]? = some (.cells #[.int .i64 1, .int .i64 n9, .string ⟨#[]⟩] 73 (0, 0))), (fun w9 v => True), (fun w9 v => v = .pointer (some ⟨b6, 4, none⟩))] : List (World → Value → Prop)).getD i (fun _ _ => True) w9 v) (fun W => Below w2.heap.size w2 W) 7 9 (fun w9 v => ∃ (p' : Option Addr) (c' : Nat) (Wp : World), v = .slice p' 1 c' ∧ Below w2.heap.size w2 Wp ∧ Wp.grownBy w9 (.slice none 0 0 : Value).ownBlock ∧ VO w9 (w.heap.size + 2) (.slice p' 1 c') (([] : List Vl) ++ [⟨1, n9, ⟨#[]⟩⟩])) 46 rfl rfl (by decide) [some 25, some 26, some 27, some 28, some 29, some 30, some 31, some 32, some 33] (by kernel_rfl) 42 (.tmp 33) (.tmp 32) (by rfl) (by rfl) (by kernel_rfl) (by kernel_rfl) (by kernel_rfl) (fun W W' => Below W.heap.size W W') ?hmon ?hpi (Below.drew (Below.refl _ _)) (AllOps.cons ?o0 (AllOps.cons ?o1 (AllOps.cons ?o2 (AllOps.cons ?o3 (AllOps.cons ?o4 (AllOps.cons ?o5 (AllOps.cons ?o6 (AllOps.cons ?o7 (AllOps.cons ?o8 (AllOps.cons ?o9 AllOps.nil)))))))))) ?hS ?hend
      case hmon =>
        intro q W W' v hb h
        rcases q with _ | _ | _ | _ | _ | _ | _ | _ | _ | q
        · exact h
        · exact h
        · exact h
        · exact h
        · exact h
        · exact h
        · obtain ⟨b9, e, h1⟩ := h; exact ⟨b9, e, (hb.block _ (blk_lt h1)).trans h1⟩
        · exact h
        · exact h
        · exact h
      case hpi =>
        intro q W W' v hq h
        rcases q with _ | _ | _ | _ | _ | _ | _ | _ | _ | _ | q
        · exact absurd hq (by decide)
        · exact absurd hq (by decide)
        · exact absurd hq (by decide)
        · exact absurd hq (by decide)
        · exact absurd hq (by decide)
        · exact absurd hq (by decide)
        · exact absurd hq (by decide)
        · exact absurd hq (by decide)
        · exact h
        · exact h
        · exact h
      case o0 =>
        intro _ _ a W hB hd ho
        replace hB := hB (by decide)
        have e6 : a.eval (.tmp 6) = .pointer (some ⟨b6, 0, none⟩) := ho 6 (by kernel_rfl)
        exact op_val (.pointer (some ⟨b6, 4, none⟩)) (by unfold execOp; simp only [ev_c, e6]; go_simp) ⟨_, rfl, rfl, fun _ => hB, fun _ => Below.refl _ _, fun _ => rfl⟩
      case o1 =>
        intro _ _ a W hB hd ho
        replace hB := hB (by decide)
        have e25 : a.eval (.tmp 25) = .pointer (some ⟨b6, 4, none⟩) := hd 0 25 (by kernel_rfl) (by decide)
        have c9 : W.cell? ⟨b6, 4, none⟩ = some (.slice none 0 0) := by
          rw [cell_of_blk ((hB.block _ (blk_lt HU2.out)).trans HU2.out)]
          rfl
        exact op_val (.slice none 0 0) (by unfold execOp; simp only [ev_c, e25]; go_simp) ⟨_, rfl, rfl, fun _ => hB, fun _ => Below.refl _ _, fun _ => rfl⟩
      case o2 =>
        intro _ _ a W hB hd ho
        replace hB := hB (by decide)
        have e2 : a.eval (.tmp 2) = .pointer (some ⟨w.heap.size, 0, none⟩) := ho 2 (by kernel_rfl)
        exact op_val (.pointer (some ⟨w.heap.size, 3, none⟩)) (by unfold execOp; simp only [ev_c, e2]; go_simp) ⟨_, rfl, rfl, fun _ => hB, fun _ => Below.refl _ _, fun _ => rfl⟩
      case o3 =>
        intro _ _ a W hB hd ho
        replace hB := hB (by decide)
        have e27 : a.eval (.tmp 27) = .pointer (some ⟨w.heap.size, 3, none⟩) := hd 2 27 (by kernel_rfl) (by decide)
        have c9 : W.cell? ⟨w.heap.size, 3, none⟩ = some (.int .i64 n) := by
          rw [cell_of_blk ((hB.block _ (blk_lt HD2.out)).trans HD2.out)]
          rfl
        exact op_val (.int .i64 n) (by unfold execOp; simp only [ev_c, e27]; go_simp) ⟨_, rfl, rfl, fun _ => hB, fun _ => Below.refl _ _, fun _ => rfl⟩
      case o4 =>
        intro _ _ a W hB hd ho
        replace hB := hB (by decide)
        have e28 : a.eval (.tmp 28) = .int .i64 n := hd 3 28 (by kernel_rfl) (by decide)
        refine op_cl 11 ent_pik2 _ _ rfl #[.int .i64 n, .int .i64 6] (by simp [ev_c, e28]) _ (HP3.out W) ?_
        rintro e W' ⟨rfl, rfl⟩
        exact ⟨_, rfl, _, rfl, rfl, fun _ => hB, fun _ => Below.refl _ _, fun h9 => absurd h9 (by decide)⟩
      case o5 =>
        intro _ _ a W hB hd ho
        replace hB := hB (by decide)
        have e29 : a.eval (.tmp 29) = .int .i64 n9 := hd 4 29 (by kernel_rfl) (by decide)
        exact op_bd 73 _ rfl #[(0, .int .i64 1), (1, .int .i64 n9)] (by simp [ev_c, e29]) (.agg #[.int .i64 1, .int .i64 n9, .string ⟨#[]⟩]) (by kernel_rfl) ⟨_, rfl, rfl, fun _ => hB, fun _ => Below.refl _ _, fun _ => rfl⟩
      case o6 =>
        intro _ _ a W hB hd ho
        replace hB := hB (by decide)
        have e30 : a.eval (.tmp 30) = .agg #[.int .i64 1, .int .i64 n9, .string ⟨#[]⟩] := hd 5 30 (by kernel_rfl) (by decide)
        have hal : Below W.heap.size W (W.alloc (.cells #[.int .i64 1, .int .i64 n9, .string ⟨#[]⟩] 73)) := (Below.refl _ _).alloc (Nat.le_refl _) _
        refine op_bs 42 1 _ rfl #[(0, .agg #[.int .i64 1, .int .i64 n9, .string ⟨#[]⟩])] (by simp [ev_c, e30]) (.slice (some ⟨W.heap.size, 0, none⟩) 1 1) (W.alloc (.cells #[.int .i64 1, .int .i64 n9, .string ⟨#[]⟩] 73)) (by kernel_rfl) ⟨_, rfl, ⟨W.heap.size, rfl, heap_alloc_new _ _⟩, fun _ => below_trans hB hal hB.size, fun _ => hal, fun h9 => absurd h9 (by decide)⟩
      case o7 =>
        intro h9; exact absurd rfl h9
      case o8 =>
        intro _ _ a W hB hd ho
        have e6 : a.eval (.tmp 6) = .pointer (some ⟨b6, 0, none⟩) := ho 6 (by kernel_rfl)
        exact op_val (.pointer (some ⟨b6, 4, none⟩)) (by unfold execOp; simp only [ev_c, e6]; go_simp) ⟨_, rfl, rfl, fun h9 => absurd h9 (by decide), fun h9 => absurd h9 (by decide), fun _ => rfl⟩
      case o9 =>
        intro _ h9; exact absurd rfl h9
      case hS =>
        intro a W vs hB hT hd hout
        have e1 : vs 1 = .slice none 0 0 := hT 1 (by decide)
        obtain ⟨b9, e6, h9⟩ : ∃ (b9 : Nat), vs 6 = .slice (some ⟨b9, 0, none⟩) 1 1 ∧ W.heap[b9]? = some (.cells #[.int .i64 1, .int .i64 n9, .string ⟨#[]⟩] 73 (0, 0)) := hT 6 (by decide)
        refine op_appV _ _ rfl (w.heap.size + 2) (.slice none 0 0) ([] : List Vl) ((hd 1 26 (by kernel_rfl)).trans e1) (((VO.nil w2 (w.heap.size + 2))).kept (fun k _ hk => hB.block k hk)) (by have h8 := blk_lt HU2.out; have := hB.size; have := H6.out; omega) b9 (⟨1, n9, ⟨#[]⟩⟩) ((hd 6 31 (by kernel_rfl)).trans e6) h9 (by simp) 1 rfl ?_
        intro p' c' W' k1 k2
        exact ⟨_, rfl, p', c', W, rfl, hB, k2, k1⟩
      case hend =>
        intro vs W hB2 hT
        obtain ⟨p', c', Wp, e7, k1, k2, k4⟩ := hB2
        have e8 : vs 8 = .pointer (some ⟨b6, 4, none⟩) := hT 8 (by decide) (by decide)
        have hR0 := VO.kept ((VO.nil w2 (w.heap.size + 2))) (fun k _ hk => k1.block k hk)
        have ne : ∀ i, i < w.heap.size + 2 → some i ≠ (.slice none 0 0 : Value).ownBlock := fun i hi e9 => by have := (hR0.lo e9.symm).1; omega
        have hO := (k2.block _ (blk_lt ((k1.block _ (blk_lt HO2.out)).trans HO2.out)) (ne _ (by omega))).trans ((k1.block _ (blk_lt HO2.out)).trans HO2.out)
        have hD := (k2.block _ (blk_lt ((k1.block _ (blk_lt HD2.out)).trans HD2.out)) (ne _ (by omega))).trans ((k1.block _ (blk_lt HD2.out)).trans HD2.out)
        have hUp := (k1.block _ (blk_lt HU2.out)).trans HU2.out
        have hU := (k2.block _ (blk_lt hUp) (fun e9 => own_ne hR0 hUp (by decide) e9.symm)).trans hUp
        have hB7 : Below w.heap.size w W := (below_trans HB2.out k1 HB2.out.size).grown k2 (below_trans HB2.out k1 HB2.out.size).size (fun i hi => by have := (hR0.lo hi).1; omega)
        refine ⟨b6, 4, [.int .i64 1, .string (tyN 1), .int .i64 M, .int .i64 at_, .slice none 0 0, .int .i64 0, .bool false], 44, .slice p' 1 c', [.slice p' 1 c'], Eq.trans (b := vs 8) (by kernel_rfl) e8, Eq.trans (b := vs 7) (by kernel_rfl) e7, rfl, hU, by simp, by kernel_rfl, rfl, ?_⟩
        intro w4 hq1 hq2
        have HU4 : Hid (w4.heap[b6]? = some (.cells #[.int .i64 1, .string (tyN 1), .int .i64 M, .int .i64 at_, .slice p' 1 c', .int .i64 0, .bool false] 44 (0, 0))) := hq1
        have HO4 := hid (blk_set hO hq2 (by have := H6.out; omega))
        have HD4 := hid (blk_set hD hq2 (by have := H6.out; omega))
        have HB4 : Hid (Below w.heap.size w w4) := below_fr hB7 hq2 (by have := H6.out; omega)
        have RW4 := hid (k4.fr hq2 hU (by decide))
        clear hq1 hq2 k1 k2 k4 hT hR0 ne hO hD hUp hU hB7
        simp only [putsD, Act.put, List.setIfInBounds_toArray, e7, e8]
        (try simp only [set_c20])
        simp only [List.set_cons_zero, List.set_cons_succ]
        clear e7 e8
        generalize vs 0 = v250
        generalize vs 1 = v251
        generalize vs 2 = v252
        generalize vs 3 = v253
        generalize vs 4 = v254
        generalize vs 5 = v255
        generalize vs 6 = v256
        clear vs
        obtain ⟨p1, hp1⟩ : ∃ z, z = p' := ⟨_, rfl⟩
        subst hp1
        obtain ⟨c1, hc1⟩ : ∃ z, z = c' := ⟨_, rfl⟩
        subst hc1
        go_upto_region 6 with fail
        refine wp_region_two (by kernel_rfl) (fun i w9 v => ([(fun w9 v => v = .pointer (some ⟨b6, 4, none⟩)), (fun w9 v => v = .slice p1 1 c1), (fun w9 v => v = .pointer (some ⟨w.heap.size, 5, none⟩)), (fun w9 v => v = .string tx), (fun w9 v => v = .string (cutT tx 3)), (fun w9 v => v = .agg #[.int .i64 2, .int .i64 0, .string (cutT tx 3)]), (fun w9 v => ∃ (b9 : Nat), v = .slice (some ⟨b9, 0, none⟩) 1 1 ∧ w9.heap[b9]? = some (.cells #[.int .i64 2, .int .i64 0, .string (cutT tx 3)] 73 (0, 0))), (fun w9 v => True), (fun w9 v => v = .pointer (some ⟨b6, 4, none⟩))] : List (World → Value → Prop)).getD i (fun _ _ => True) w9 v) (fun W => Below w4.heap.size w4 W) 7 9 (fun w9 v => ∃ (p' : Option Addr) (c' : Nat) (Wp : World), v = .slice p' 2 c' ∧ Below w4.heap.size w4 Wp ∧ Wp.grownBy w9 (.slice p1 1 c1 : Value).ownBlock ∧ VO w9 (w.heap.size + 2) (.slice p' 2 c') ([⟨1, n9, ⟨#[]⟩⟩] ++ [⟨2, 0, cutT tx 3⟩])) 46 rfl rfl (by decide) [some 36, some 37, some 38, some 39, some 40, some 41, some 42, some 43, some 44] (by kernel_rfl) 42 (.tmp 44) (.tmp 43) (by rfl) (by rfl) (by kernel_rfl) (by kernel_rfl) (by kernel_rfl) (fun W W' => Below W.heap.size W W') ?hmon ?hpi (Below.drew (Below.refl _ _)) (AllOps.cons ?o0 (AllOps.cons ?o1 (AllOps.cons ?o2 (AllOps.cons ?o3 (AllOps.cons ?o4 (AllOps.cons ?o5 (AllOps.cons ?o6 (AllOps.cons ?o7 (AllOps.cons ?o8 (AllOps.cons ?o9 AllOps.nil)))))))))) ?hS ?hend
        case hmon =>
          intro q W W' v hb h
          rcases q with _ | _ | _ | _ | _ | _ | _ | _ | _ | q
          · exact h
          · exact h
          · exact h
          · exact h
          · exact h
          · exact h
          · obtain ⟨b9, e, h1⟩ := h; exact ⟨b9, e, (hb.block _ (blk_lt h1)).trans h1⟩
          · exact h
          · exact h
          · exact h
        case hpi =>
          intro q W W' v hq h
          rcases q with _ | _ | _ | _ | _ | _ | _ | _ | _ | _ | q
          · exact absurd hq (by decide)
          · exact absurd hq (by decide)
          · exact absurd hq (by decide)
          · exact absurd hq (by decide)
          · exact absurd hq (by decide)
          · exact absurd hq (by decide)
          · exact absurd hq (by decide)
          · exact absurd hq (by decide)
          · exact h
          · exact h
          · exact h
        case o0 =>
          intro _ _ a W hB hd ho
          replace hB := hB (by decide)
          have e6 : a.eval (.tmp 6) = .pointer (some ⟨b6, 0, none⟩) := ho 6 (by kernel_rfl)
          exact op_val (.pointer (some ⟨b6, 4, none⟩)) (by unfold execOp; simp only [ev_c, e6]; go_simp) ⟨_, rfl, rfl, fun _ => hB, fun _ => Below.refl _ _, fun _ => rfl⟩
        case o1 =>
          intro _ _ a W hB hd ho
          replace hB := hB (by decide)
          have e36 : a.eval (.tmp 36) = .pointer (some ⟨b6, 4, none⟩) := hd 0 36 (by kernel_rfl) (by decide)
          have c9 : W.cell? ⟨b6, 4, none⟩ = some (.slice p1 1 c1) := by
            rw [cell_of_blk ((hB.block _ (blk_lt HU4.out)).trans HU4.out)]
            rfl
          exact op_val (.slice p1 1 c1) (by unfold execOp; simp only [ev_c, e36]; go_simp) ⟨_, rfl, rfl, fun _ => hB, fun _ => Below.refl _ _, fun _ => rfl⟩
        case o2 =>
          intro _ _ a W hB hd ho
          replace hB := hB (by decide)
          have e2 : a.eval (.tmp 2) = .pointer (some ⟨w.heap.size, 0, none⟩) := ho 2 (by kernel_rfl)
          exact op_val (.pointer (some ⟨w.heap.size, 5, none⟩)) (by unfold execOp; simp only [ev_c, e2]; go_simp) ⟨_, rfl, rfl, fun _ => hB, fun _ => Below.refl _ _, fun _ => rfl⟩
        case o3 =>
          intro _ _ a W hB hd ho
          replace hB := hB (by decide)
          have e38 : a.eval (.tmp 38) = .pointer (some ⟨w.heap.size, 5, none⟩) := hd 2 38 (by kernel_rfl) (by decide)
          have c9 : W.cell? ⟨w.heap.size, 5, none⟩ = some (.string tx) := by
            rw [cell_of_blk ((hB.block _ (blk_lt HD4.out)).trans HD4.out)]
            rfl
          exact op_val (.string tx) (by unfold execOp; simp only [ev_c, e38]; go_simp) ⟨_, rfl, rfl, fun _ => hB, fun _ => Below.refl _ _, fun _ => rfl⟩
        case o4 =>
          intro _ _ a W hB hd ho
          replace hB := hB (by decide)
          have e39 : a.eval (.tmp 39) = .string tx := hd 3 39 (by kernel_rfl) (by decide)
          refine op_cl 27 ent_cut _ _ rfl #[.string tx, .int .i64 3] (by simp [ev_c, e39]) _ (HCU.out W) ?_
          rintro e W' ⟨rfl, hal⟩
          exact ⟨_, rfl, _, rfl, rfl, fun _ => below_trans hB hal hB.size, fun _ => hal, fun h9 => absurd h9 (by decide)⟩
        case o5 =>
          intro _ _ a W hB hd ho
          replace hB := hB (by decide)
          have e40 : a.eval (.tmp 40) = .string (cutT tx 3) := hd 4 40 (by kernel_rfl) (by decide)
          exact op_bd 73 _ rfl #[(0, .int .i64 2), (2, .string (cutT tx 3))] (by simp [ev_c, e40]) (.agg #[.int .i64 2, .int .i64 0, .string (cutT tx 3)]) (by kernel_rfl) ⟨_, rfl, rfl, fun _ => hB, fun _ => Below.refl _ _, fun _ => rfl⟩
        case o6 =>
          intro _ _ a W hB hd ho
          replace hB := hB (by decide)
          have e41 : a.eval (.tmp 41) = .agg #[.int .i64 2, .int .i64 0, .string (cutT tx 3)] := hd 5 41 (by kernel_rfl) (by decide)
          have hal : Below W.heap.size W (W.alloc (.cells #[.int .i64 2, .int .i64 0, .string (cutT tx 3)] 73)) := (Below.refl _ _).alloc (Nat.le_refl _) _
          refine op_bs 42 1 _ rfl #[(0, .agg #[.int .i64 2, .int .i64 0, .string (cutT tx 3)])] (by simp [ev_c, e41]) (.slice (some ⟨W.heap.size, 0, none⟩) 1 1) (W.alloc (.cells #[.int .i64 2, .int .i64 0, .string (cutT tx 3)] 73)) (by kernel_rfl) ⟨_, rfl, ⟨W.heap.size, rfl, heap_alloc_new _ _⟩, fun _ => below_trans hB hal hB.size, fun _ => hal, fun h9 => absurd h9 (by decide)⟩
        case o7 =>
          intro h9; exact absurd rfl h9
        case o8 =>
          intro _ _ a W hB hd ho
          have e6 : a.eval (.tmp 6) = .pointer (some ⟨b6, 0, none⟩) := ho 6 (by kernel_rfl)
          exact op_val (.pointer (some ⟨b6, 4, none⟩)) (by unfold execOp; simp only [ev_c, e6]; go_simp) ⟨_, rfl, rfl, fun h9 => absurd h9 (by decide), fun h9 => absurd h9 (by decide), fun _ => rfl⟩
        case o9 =>
          intro _ h9; exact absurd rfl h9
        case hS =>
          intro a W vs hB hT hd hout
          have e1 : vs 1 = .slice p1 1 c1 := hT 1 (by decide)
          obtain ⟨b9, e6, h9⟩ : ∃ (b9 : Nat), vs 6 = .slice (some ⟨b9, 0, none⟩) 1 1 ∧ W.heap[b9]? = some (.cells #[.int .i64 2, .int .i64 0, .string (cutT tx 3)] 73 (0, 0)) := hT 6 (by decide)
          refine op_appV _ _ rfl (w.heap.size + 2) (.slice p1 1 c1) [⟨1, n9, ⟨#[]⟩⟩] ((hd 1 37 (by kernel_rfl)).trans e1) ((RW4.out).kept (fun k _ hk => hB.block k hk)) (by have h8 := blk_lt HU4.out; have := hB.size; have := H6.out; omega) b9 (⟨2, 0, cutT tx 3⟩) ((hd 6 42 (by kernel_rfl)).trans e6) h9 (by simp) 2 rfl ?_
          intro p' c' W' k1 k2
          exact ⟨_, rfl, p', c', W, rfl, hB, k2, k1⟩
        case hend =>
          intro vs W hB2 hT
          obtain ⟨p', c', Wp, e7, k1, k2, k4⟩ := hB2
          have e8 : vs 8 = .pointer (some ⟨b6, 4, none⟩) := hT 8 (by decide) (by decide)
          have hR0 := VO.kept (RW4.out) (fun k _ hk => k1.block k hk)
          have ne : ∀ i, i < w.heap.size + 2 → some i ≠ (.slice p1 1 c1 : Value).ownBlock := fun i hi e9 => by have := (hR0.lo e9.symm).1; omega
          have hO := (k2.block _ (blk_lt ((k1.block _ (blk_lt HO4.out)).trans HO4.out)) (ne _ (by omega))).trans ((k1.block _ (blk_lt HO4.out)).trans HO4.out)
          have hD := (k2.block _ (blk_lt ((k1.block _ (blk_lt HD4.out)).trans HD4.out)) (ne _ (by omega))).trans ((k1.block _ (blk_lt HD4.out)).trans HD4.out)
          have hUp := (k1.block _ (blk_lt HU4.out)).trans HU4.out
          have hU := (k2.block _ (blk_lt hUp) (fun e9 => own_ne hR0 hUp (by decide) e9.symm)).trans hUp
          have hB7 : Below w.heap.size w W := (below_trans HB4.out k1 HB4.out.size).grown k2 (below_trans HB4.out k1 HB4.out.size).size (fun i hi => by have := (hR0.lo hi).1; omega)
          refine ⟨b6, 4, [.int .i64 1, .string (tyN 1), .int .i64 M, .int .i64 at_, .slice p1 1 c1, .int .i64 0, .bool false], 44, .slice p' 2 c', [.slice p' 2 c'], Eq.trans (b := vs 8) (by kernel_rfl) e8, Eq.trans (b := vs 7) (by kernel_rfl) e7, rfl, hU, by simp, by kernel_rfl, rfl, ?_⟩
          intro w6 hq1 hq2
          have HU6 : Hid (w6.heap[b6]? = some (.cells #[.int .i64 1, .string (tyN 1), .int .i64 M, .int .i64 at_, .slice p' 2 c', .int .i64 0, .bool false] 44 (0, 0))) := hq1
          have HO6 := hid (blk_set hO hq2 (by have := H6.out; omega))
          have HD6 := hid (blk_set hD hq2 (by have := H6.out; omega))
          have HB6 : Hid (Below w.heap.size w w6) := below_fr hB7 hq2 (by have := H6.out; omega)
          have RW6 := hid (k4.fr hq2 hU (by decide))
          clear hq1 hq2 k1 k2 k4 hT hR0 ne hO hD hUp hU hB7
          simp only [putsD, Act.put, List.setIfInBounds_toArray, e7, e8]
          (try simp only [set_c20])
          simp only [List.set_cons_zero, List.set_cons_succ]
          clear e7 e8
          generalize vs 0 = v360
          generalize vs 1 = v361
          generalize vs 2 = v362
          generalize vs 3 = v363
          generalize vs 4 = v364
          generalize vs 5 = v365
          generalize vs 6 = v366
          clear vs
          have y0 : w6.cell? ⟨b6, 0, none⟩ = some (.int .i64 1) := by rw [cell_of_blk HU6.out]; rfl
          have y1 : w6.cell? ⟨b6, 1, none⟩ = some (.string (tyN 1)) := by rw [cell_of_blk HU6.out]; rfl
          have y2 : w6.cell? ⟨b6, 2, none⟩ = some (.int .i64 M) := by rw [cell_of_blk HU6.out]; rfl
          have y3 : w6.cell? ⟨b6, 3, none⟩ = some (.int .i64 at_) := by rw [cell_of_blk HU6.out]; rfl
          have y4 : w6.cell? ⟨b6, 4, none⟩ = some (.slice p' 2 c') := by rw [cell_of_blk HU6.out]; rfl
          have y5 : w6.cell? ⟨b6, 5, none⟩ = some (.int .i64 0) := by rw [cell_of_blk HU6.out]; rfl
          have y6 : w6.cell? ⟨b6, 6, none⟩ = some (.bool false) := by rw [cell_of_blk HU6.out]; rfl
          go_wp2_with ((with_reducible show wpList _ _ _ (Oper.mk _ (.store 44 _ _) _ _ _ _ :: _) _ _); refine wp_st (by rfl) 44 _ _ (by rfl) (w.heap.size + 1) 0 [.int .i64 0, .string ⟨#[]⟩, .int .i64 0, .int .i64 0, .slice none 0 0, .int .i64 0, .bool false] 44 (.agg #[.int .i64 1, .string (tyN 1), .int .i64 M, .int .i64 at_, .slice p' 2 c', .int .i64 0, .bool false]) [.int .i64 1, .string (tyN 1), .int .i64 M, .int .i64 at_, .slice p' 2 c', .int .i64 0, .bool false] (by rfl) (by rfl) (by rfl) HO6.out (by simp) (by kernel_rfl) (by rfl) ?_; intro wz hq1 hq2; have HUz := hid hq1; have HFz := hid hq2; clear hq1 hq2)
          have HBz := below_fr HB6.out HFz.out (by omega)
          have hRd : VO wz (w.heap.size + 2) _ ([⟨1, n9, ⟨#[]⟩⟩, ⟨2, 0, cutT tx 3⟩] : List Vl) := RW6.out.fr HFz.out HO6.out (by decide)
          exact ret_loc (w.heap.size + 1) [.int .i64 1, .string (tyN 1), .int .i64 M, .int .i64 at_, .slice p' 2 c', .int .i64 0, .bool false] 44 _ HUz.out rfl rfl (by rfl) Try.underlying44 rfl (by kernel_rfl) ⟨_, rfl, hRd, HBz⟩
    · skip
      go_upto_region 4 with fail
      refine wp_region_two (by kernel_rfl) (fun i w9 v => ([(fun w9 v => v = .pointer (some ⟨b6, 4, none⟩)), (fun w9 v => v = .slice none 0 0), (fun w9 v => v = .pointer (some ⟨w.heap.size, 3, none⟩)), (fun w9 v => v = .int .i64 n), (fun w9 v => v = .int .i64 n9), (fun w9 v => v = .agg #[.int .i64 1, .int .i64 n9, .string ⟨#[]⟩]), (fun w9 v => ∃ (b9 : Nat), v = .slice (some ⟨b9, 0, none⟩) 1 1 ∧ w9.heap[b9]? = some (.cells #[.int .i64 1, .int .i64 n9, .string ⟨#[]⟩] 73 (0, 0))), (fun w9 v => True), (fun w9 v => v = .pointer (some ⟨b6, 4, none⟩))] : List (World → Value → Prop)).getD i (fun _ _ => True) w9 v) (fun W => Below w2.heap.size w2 W) 7 9 (fun w9 v => ∃ (p' : Option Addr) (c' : Nat) (Wp : World), v = .slice p' 1 c' ∧ Below w2.heap.size w2 Wp ∧ Wp.grownBy w9 (.slice none 0 0 : Value).ownBlock ∧ VO w9 (w.heap.size + 2) (.slice p' 1 c') (([] : List Vl) ++ [⟨1, n9, ⟨#[]⟩⟩])) 46 rfl rfl (by decide) [some 25, some 26, some 27, some 28, some 29, some 30, some 31, some 32, some 33] (by kernel_rfl) 42 (.tmp 33) (.tmp 32) (by rfl) (by rfl) (by kernel_rfl) (by kernel_rfl) (by kernel_rfl) (fun W W' => Below W.heap.size W W') ?hmon ?hpi (Below.drew (Below.refl _ _)) (AllOps.cons ?o0 (AllOps.cons ?o1 (AllOps.cons ?o2 (AllOps.cons ?o3 (AllOps.cons ?o4 (AllOps.cons ?o5 (AllOps.cons ?o6 (AllOps.cons ?o7 (AllOps.cons ?o8 (AllOps.cons ?o9 AllOps.nil)))))))))) ?hS ?hend
      case hmon =>
        intro q W W' v hb h
        rcases q with _ | _ | _ | _ | _ | _ | _ | _ | _ | q
        · exact h
        · exact h
        · exact h
        · exact h
        · exact h
        · exact h
        · obtain ⟨b9, e, h1⟩ := h; exact ⟨b9, e, (hb.block _ (blk_lt h1)).trans h1⟩
        · exact h
        · exact h
        · exact h
      case hpi =>
        intro q W W' v hq h
        rcases q with _ | _ | _ | _ | _ | _ | _ | _ | _ | _ | q
        · exact absurd hq (by decide)
        · exact absurd hq (by decide)
        · exact absurd hq (by decide)
        · exact absurd hq (by decide)
        · exact absurd hq (by decide)
        · exact absurd hq (by decide)
        · exact absurd hq (by decide)
        · exact absurd hq (by decide)
        · exact h
        · exact h
        · exact h
      case o0 =>
        intro _ _ a W hB hd ho
        replace hB := hB (by decide)
        have e6 : a.eval (.tmp 6) = .pointer (some ⟨b6, 0, none⟩) := ho 6 (by kernel_rfl)
        exact op_val (.pointer (some ⟨b6, 4, none⟩)) (by unfold execOp; simp only [ev_c, e6]; go_simp) ⟨_, rfl, rfl, fun _ => hB, fun _ => Below.refl _ _, fun _ => rfl⟩
      case o1 =>
        intro _ _ a W hB hd ho
        replace hB := hB (by decide)
        have e25 : a.eval (.tmp 25) = .pointer (some ⟨b6, 4, none⟩) := hd 0 25 (by kernel_rfl) (by decide)
        have c9 : W.cell? ⟨b6, 4, none⟩ = some (.slice none 0 0) := by
          rw [cell_of_blk ((hB.block _ (blk_lt HU2.out)).trans HU2.out)]
          rfl
        exact op_val (.slice none 0 0) (by unfold execOp; simp only [ev_c, e25]; go_simp) ⟨_, rfl, rfl, fun _ => hB, fun _ => Below.refl _ _, fun _ => rfl⟩
      case o2 =>
        intro _ _ a W hB hd ho
        replace hB := hB (by decide)
        have e2 : a.eval (.tmp 2) = .pointer (some ⟨w.heap.size, 0, none⟩) := ho 2 (by kernel_rfl)
        exact op_val (.pointer (some ⟨w.heap.size, 3, none⟩)) (by unfold execOp; simp only [ev_c, e2]; go_simp) ⟨_, rfl, rfl, fun _ => hB, fun _ => Below.refl _ _, fun _ => rfl⟩
      case o3 =>
        intro _ _ a W hB hd ho
        replace hB := hB (by decide)
        have e27 : a.eval (.tmp 27) = .pointer (some ⟨w.heap.size, 3, none⟩) := hd 2 27 (by kernel_rfl) (by decide)
        have c9 : W.cell? ⟨w.heap.size, 3, none⟩ = some (.int .i64 n) := by
          rw [cell_of_blk ((hB.block _ (blk_lt HD2.out)).trans HD2.out)]
          rfl
        exact op_val (.int .i64 n) (by unfold execOp; simp only [ev_c, e27]; go_simp) ⟨_, rfl, rfl, fun _ => hB, fun _ => Below.refl _ _, fun _ => rfl⟩
      case o4 =>
        intro _ _ a W hB hd ho
        replace hB := hB (by decide)
        have e28 : a.eval (.tmp 28) = .int .i64 n := hd 3 28 (by kernel_rfl) (by decide)
        refine op_cl 11 ent_pik2 _ _ rfl #[.int .i64 n, .int .i64 6] (by simp [ev_c, e28]) _ (HP3.out W) ?_
        rintro e W' ⟨rfl, rfl⟩
        exact ⟨_, rfl, _, rfl, rfl, fun _ => hB, fun _ => Below.refl _ _, fun h9 => absurd h9 (by decide)⟩
      case o5 =>
        intro _ _ a W hB hd ho
        replace hB := hB (by decide)
        have e29 : a.eval (.tmp 29) = .int .i64 n9 := hd 4 29 (by kernel_rfl) (by decide)
        exact op_bd 73 _ rfl #[(0, .int .i64 1), (1, .int .i64 n9)] (by simp [ev_c, e29]) (.agg #[.int .i64 1, .int .i64 n9, .string ⟨#[]⟩]) (by kernel_rfl) ⟨_, rfl, rfl, fun _ => hB, fun _ => Below.refl _ _, fun _ => rfl⟩
      case o6 =>
        intro _ _ a W hB hd ho
        replace hB := hB (by decide)
        have e30 : a.eval (.tmp 30) = .agg #[.int .i64 1, .int .i64 n9, .string ⟨#[]⟩] := hd 5 30 (by kernel_rfl) (by decide)
        have hal : Below W.heap.size W (W.alloc (.cells #[.int .i64 1, .int .i64 n9, .string ⟨#[]⟩] 73)) := (Below.refl _ _).alloc (Nat.le_refl _) _
        refine op_bs 42 1 _ rfl #[(0, .agg #[.int .i64 1, .int .i64 n9, .string ⟨#[]⟩])] (by simp [ev_c, e30]) (.slice (some ⟨W.heap.size, 0, none⟩) 1 1) (W.alloc (.cells #[.int .i64 1, .int .i64 n9, .string ⟨#[]⟩] 73)) (by kernel_rfl) ⟨_, rfl, ⟨W.heap.size, rfl, heap_alloc_new _ _⟩, fun _ => below_trans hB hal hB.size, fun _ => hal, fun h9 => absurd h9 (by decide)⟩
      case o7 =>
        intro h9; exact absurd rfl h9
      case o8 =>
        intro _ _ a W hB hd ho
        have e6 : a.eval (.tmp 6) = .pointer (some ⟨b6, 0, none⟩) := ho 6 (by kernel_rfl)
        exact op_val (.pointer (some ⟨b6, 4, none⟩)) (by unfold execOp; simp only [ev_c, e6]; go_simp) ⟨_, rfl, rfl, fun h9 => absurd h9 (by decide), fun h9 => absurd h9 (by decide), fun _ => rfl⟩
      case o9 =>
        intro _ h9; exact absurd rfl h9
      case hS =>
        intro a W vs hB hT hd hout
        have e1 : vs 1 = .slice none 0 0 := hT 1 (by decide)
        obtain ⟨b9, e6, h9⟩ : ∃ (b9 : Nat), vs 6 = .slice (some ⟨b9, 0, none⟩) 1 1 ∧ W.heap[b9]? = some (.cells #[.int .i64 1, .int .i64 n9, .string ⟨#[]⟩] 73 (0, 0)) := hT 6 (by decide)
        refine op_appV _ _ rfl (w.heap.size + 2) (.slice none 0 0) ([] : List Vl) ((hd 1 26 (by kernel_rfl)).trans e1) (((VO.nil w2 (w.heap.size + 2))).kept (fun k _ hk => hB.block k hk)) (by have h8 := blk_lt HU2.out; have := hB.size; have := H6.out; omega) b9 (⟨1, n9, ⟨#[]⟩⟩) ((hd 6 31 (by kernel_rfl)).trans e6) h9 (by simp) 1 rfl ?_
        intro p' c' W' k1 k2
        exact ⟨_, rfl, p', c', W, rfl, hB, k2, k1⟩
      case hend =>
        intro vs W hB2 hT
        obtain ⟨p', c', Wp, e7, k1, k2, k4⟩ := hB2
        have e8 : vs 8 = .pointer (some ⟨b6, 4, none⟩) := hT 8 (by decide) (by decide)
        have hR0 := VO.kept ((VO.nil w2 (w.heap.size + 2))) (fun k _ hk => k1.block k hk)
        have ne : ∀ i, i < w.heap.size + 2 → some i ≠ (.slice none 0 0 : Value).ownBlock := fun i hi e9 => by have := (hR0.lo e9.symm).1; omega
        have hO := (k2.block _ (blk_lt ((k1.block _ (blk_lt HO2.out)).trans HO2.out)) (ne _ (by omega))).trans ((k1.block _ (blk_lt HO2.out)).trans HO2.out)
        have hD := (k2.block _ (blk_lt ((k1.block _ (blk_lt HD2.out)).trans HD2.out)) (ne _ (by omega))).trans ((k1.block _ (blk_lt HD2.out)).trans HD2.out)
        have hUp := (k1.block _ (blk_lt HU2.out)).trans HU2.out
        have hU := (k2.block _ (blk_lt hUp) (fun e9 => own_ne hR0 hUp (by decide) e9.symm)).trans hUp
        have hB7 : Below w.heap.size w W := (below_trans HB2.out k1 HB2.out.size).grown k2 (below_trans HB2.out k1 HB2.out.size).size (fun i hi => by have := (hR0.lo hi).1; omega)
        refine ⟨b6, 4, [.int .i64 1, .string (tyN 0), .int .i64 M, .int .i64 at_, .slice none 0 0, .int .i64 0, .bool false], 44, .slice p' 1 c', [.slice p' 1 c'], Eq.trans (b := vs 8) (by kernel_rfl) e8, Eq.trans (b := vs 7) (by kernel_rfl) e7, rfl, hU, by simp, by kernel_rfl, rfl, ?_⟩
        intro w4 hq1 hq2
        have HU4 : Hid (w4.heap[b6]? = some (.cells #[.int .i64 1, .string (tyN 0), .int .i64 M, .int .i64 at_, .slice p' 1 c', .int .i64 0, .bool false] 44 (0, 0))) := hq1
        have HO4 := hid (blk_set hO hq2 (by have := H6.out; omega))
        have HD4 := hid (blk_set hD hq2 (by have := H6.out; omega))
        have HB4 : Hid (Below w.heap.size w w4) := below_fr hB7 hq2 (by have := H6.out; omega)
        have RW4 := hid (k4.fr hq2 hU (by decide))
        clear hq1 hq2 k1 k2 k4 hT hR0 ne hO hD hUp hU hB7
        simp only [putsD, Act.put, List.setIfInBounds_toArray, e7, e8]
        (try simp only [set_c20])
        simp only [List.set_cons_zero, List.set_cons_succ]
        clear e7 e8
        generalize vs 0 = v250
        generalize vs 1 = v251
        generalize vs 2 = v252
        generalize vs 3 = v253
        generalize vs 4 = v254
        generalize vs 5 = v255
        generalize vs 6 = v256
        clear vs
        have y0 : w4.cell? ⟨b6, 0, none⟩ = some (.int .i64 1) := by rw [cell_of_blk HU4.out]; rfl
        have y1 : w4.cell? ⟨b6, 1, none⟩ = some (.string (tyN 0)) := by rw [cell_of_blk HU4.out]; rfl
        have y2 : w4.cell? ⟨b6, 2, none⟩ = some (.int .i64 M) := by rw [cell_of_blk HU4.out]; rfl
        have y3 : w4.cell? ⟨b6, 3, none⟩ = some (.int .i64 at_) := by rw [cell_of_blk HU4.out]; rfl
        have y4 : w4.cell? ⟨b6, 4, none⟩ = some (.slice p' 1 c') := by rw [cell_of_blk HU4.out]; rfl
        have y5 : w4.cell? ⟨b6, 5, none⟩ = some (.int .i64 0) := by rw [cell_of_blk HU4.out]; rfl
        have y6 : w4.cell? ⟨b6, 6, none⟩ = some (.bool false) := by rw [cell_of_blk HU4.out]; rfl
        go_wp2_with ((with_reducible show wpList _ _ _ (Oper.mk _ (.store 44 _ _) _ _ _ _ :: _) _ _); refine wp_st (by rfl) 44 _ _ (by rfl) (w.heap.size + 1) 0 [.int .i64 0, .string ⟨#[]⟩, .int .i64 0, .int .i64 0, .slice none 0 0, .int .i64 0, .bool false] 44 (.agg #[.int .i64 1, .string (tyN 0), .int .i64 M, .int .i64 at_, .slice p' 1 c', .int .i64 0, .bool false]) [.int .i64 1, .string (tyN 0), .int .i64 M, .int .i64 at_, .slice p' 1 c', .int .i64 0, .bool false] (by rfl) (by rfl) (by rfl) HO4.out (by simp) (by kernel_rfl) (by rfl) ?_; intro wz hq1 hq2; have HUz := hid hq1; have HFz := hid hq2; clear hq1 hq2)
        have HBz := below_fr HB4.out HFz.out (by omega)
        have hRd : VO wz (w.heap.size + 2) _ ([⟨1, n9, ⟨#[]⟩⟩] : List Vl) := RW4.out.fr HFz.out HO4.out (by decide)
        exact ret_loc (w.heap.size + 1) [.int .i64 1, .string (tyN 0), .int .i64 M, .int .i64 at_, .slice p' 1 c', .int .i64 0, .bool false] 44 _ HUz.out rfl rfl (by rfl) Try.underlying44 rfl (by kernel_rfl) ⟨_, rfl, hRd, HBz⟩
    · skip
      go_upto_region 4 with fail
      refine wp_region_two (by kernel_rfl) (fun i w9 v => ([(fun w9 v => v = .pointer (some ⟨b6, 4, none⟩)), (fun w9 v => v = .slice none 0 0), (fun w9 v => v = .pointer (some ⟨w.heap.size, 3, none⟩)), (fun w9 v => v = .int .i64 n), (fun w9 v => v = .int .i64 n9), (fun w9 v => v = .agg #[.int .i64 1, .int .i64 n9, .string ⟨#[]⟩]), (fun w9 v => ∃ (b9 : Nat), v = .slice (some ⟨b9, 0, none⟩) 1 1 ∧ w9.heap[b9]? = some (.cells #[.int .i64 1, .int .i64 n9, .string ⟨#[]⟩] 73 (0, 0))), (fun w9 v => True), (fun w9 v => v = .pointer (some ⟨b6, 4, none⟩))] : List (World → Value → Prop)).getD i (fun _ _ => True) w9 v) (fun W => Below w2.heap.size w2 W) 7 9 (fun w9 v => ∃ (p' : Option Addr) (c' : Nat) (Wp : World), v = .slice p' 1 c' ∧ Below w2.heap.size w2 Wp ∧ Wp.grownBy w9 (.slice none 0 0 : Value).ownBlock ∧ VO w9 (w.heap.size + 2) (.slice p' 1 c') (([] : List Vl) ++ [⟨1, n9, ⟨#[]⟩⟩])) 46 rfl rfl (by decide) [some 25, some 26, some 27, some 28, some 29, some 30, some 31, some 32, some 33] (by kernel_rfl) 42 (.tmp 33) (.tmp 32) (by rfl) (by rfl) (by kernel_rfl) (by kernel_rfl) (by kernel_rfl) (fun W W' => Below W.heap.size W W') ?hmon ?hpi (Below.drew (Below.refl _ _)) (AllOps.cons ?o0 (AllOps.cons ?o1 (AllOps.cons ?o2 (AllOps.cons ?o3 (AllOps.cons ?o4 (AllOps.cons ?o5 (AllOps.cons ?o6 (AllOps.cons ?o7 (AllOps.cons ?o8 (AllOps.cons ?o9 AllOps.nil)))))))))) ?hS ?hend
      case hmon =>
        intro q W W' v hb h
        rcases q with _ | _ | _ | _ | _ | _ | _ | _ | _ | q
        · exact h
        · exact h
        · exact h
        · exact h
        · exact h
        · exact h
        · obtain ⟨b9, e, h1⟩ := h; exact ⟨b9, e, (hb.block _ (blk_lt h1)).trans h1⟩
        · exact h
        · exact h
        · exact h
      case hpi =>
        intro q W W' v hq h
        rcases q with _ | _ | _ | _ | _ | _ | _ | _ | _ | _ | q
        · exact absurd hq (by decide)
        · exact absurd hq (by decide)
        · exact absurd hq (by decide)
        · exact absurd hq (by decide)
        · exact absurd hq (by decide)
        · exact absurd hq (by decide)
        · exact absurd hq (by decide)
        · exact absurd hq (by decide)
        · exact h
        · exact h
        · exact h
      case o0 =>
        intro _ _ a W hB hd ho
        replace hB := hB (by decide)
        have e6 : a.eval (.tmp 6) = .pointer (some ⟨b6, 0, none⟩) := ho 6 (by kernel_rfl)
        exact op_val (.pointer (some ⟨b6, 4, none⟩)) (by unfold execOp; simp only [ev_c, e6]; go_simp) ⟨_, rfl, rfl, fun _ => hB, fun _ => Below.refl _ _, fun _ => rfl⟩
      case o1 =>
        intro _ _ a W hB hd ho
        replace hB := hB (by decide)
        have e25 : a.eval (.tmp 25) = .pointer (some ⟨b6, 4, none⟩) := hd 0 25 (by kernel_rfl) (by decide)
        have c9 : W.cell? ⟨b6, 4, none⟩ = some (.slice none 0 0) := by
          rw [cell_of_blk ((hB.block _ (blk_lt HU2.out)).trans HU2.out)]
          rfl
        exact op_val (.slice none 0 0) (by unfold execOp; simp only [ev_c, e25]; go_simp) ⟨_, rfl, rfl, fun _ => hB, fun _ => Below.refl _ _, fun _ => rfl⟩
      case o2 =>
        intro _ _ a W hB hd ho
        replace hB := hB (by decide)
        have e2 : a.eval (.tmp 2) = .pointer (some ⟨w.heap.size, 0, none⟩) := ho 2 (by kernel_rfl)
        exact op_val (.pointer (some ⟨w.heap.size, 3, none⟩)) (by unfold execOp; simp only [ev_c, e2]; go_simp) ⟨_, rfl, rfl, fun _ => hB, fun _ => Below.refl _ _, fun _ => rfl⟩
      case o3 =>
        intro _ _ a W hB hd ho
        replace hB := hB (by decide)
        have e27 : a.eval (.tmp 27) = .pointer (some ⟨w.heap.size, 3, none⟩) := hd 2 27 (by kernel_rfl) (by decide)
        have c9 : W.cell? ⟨w.heap.size, 3, none⟩ = some (.int .i64 n) := by
          rw [cell_of_blk ((hB.block _ (blk_lt HD2.out)).trans HD2.out)]
          rfl
        exact op_val (.int .i64 n) (by unfold execOp; simp only [ev_c, e27]; go_simp) ⟨_, rfl, rfl, fun _ => hB, fun _ => Below.refl _ _, fun _ => rfl⟩
      case o4 =>
        intro _ _ a W hB hd ho
        replace hB := hB (by decide)
        have e28 : a.eval (.tmp 28) = .int .i64 n := hd 3 28 (by kernel_rfl) (by decide)
        refine op_cl 11 ent_pik2 _ _ rfl #[.int .i64 n, .int .i64 6] (by simp [ev_c, e28]) _ (HP3.out W) ?_
        rintro e W' ⟨rfl, rfl⟩
        exact ⟨_, rfl, _, rfl, rfl, fun _ => hB, fun _ => Below.refl _ _, fun h9 => absurd h9 (by decide)⟩
      case o5 =>
        intro _ _ a W hB hd ho
        replace hB := hB (by decide)
        have e29 : a.eval (.tmp 29) = .int .i64 n9 := hd 4 29 (by kernel_rfl) (by decide)
        exact op_bd 73 _ rfl #[(0, .int .i64 1), (1, .int .i64 n9)] (by simp [ev_c, e29]) (.agg #[.int .i64 1, .int .i64 n9, .string ⟨#[]⟩]) (by kernel_rfl) ⟨_, rfl, rfl, fun _ => hB, fun _ => Below.refl _ _, fun _ => rfl⟩
      case o6 =>
        intro _ _ a W hB hd ho
        replace hB := hB (by decide)
        have e30 : a.eval (.tmp 30) = .agg #[.int .i64 1, .int .i64 n9, .string ⟨#[]⟩] := hd 5 30 (by kernel_rfl) (by decide)
        have hal : Below W.heap.size W (W.alloc (.cells #[.int .i64 1, .int .i64 n9, .string ⟨#[]⟩] 73)) := (Below.refl _ _).alloc (Nat.le_refl _) _
        refine op_bs 42 1 _ rfl #[(0, .agg #[.int .i64 1, .int .i64 n9, .string ⟨#[]⟩])] (by simp [ev_c, e30]) (.slice (some ⟨W.heap.size, 0, none⟩) 1 1) (W.alloc (.cells #[.int .i64 1, .int .i64 n9, .string ⟨#[]⟩] 73)) (by kernel_rfl) ⟨_, rfl, ⟨W.heap.size, rfl, heap_alloc_new _ _⟩, fun _ => below_trans hB hal hB.size, fun _ => hal, fun h9 => absurd h9 (by decide)⟩
      case o7 =>
        intro h9; exact absurd rfl h9
      case o8 =>
        intro _ _ a W hB hd ho
        have e6 : a.eval (.tmp 6) = .pointer (some ⟨b6, 0, none⟩) := ho 6 (by kernel_rfl)
        exact op_val (.pointer (some ⟨b6, 4, none⟩)) (by unfold execOp; simp only [ev_c, e6]; go_simp) ⟨_, rfl, rfl, fun h9 => absurd h9 (by decide), fun h9 => absurd h9 (by decide), fun _ => rfl⟩
      case o9 =>
        intro _ h9; exact absurd rfl h9
      case hS =>
        intro a W vs hB hT hd hout
        have e1 : vs 1 = .slice none 0 0 := hT 1 (by decide)
        obtain ⟨b9, e6, h9⟩ : ∃ (b9 : Nat), vs 6 = .slice (some ⟨b9, 0, none⟩) 1 1 ∧ W.heap[b9]? = some (.cells #[.int .i64 1, .int .i64 n9, .string ⟨#[]⟩] 73 (0, 0)) := hT 6 (by decide)
        refine op_appV _ _ rfl (w.heap.size + 2) (.slice none 0 0) ([] : List Vl) ((hd 1 26 (by kernel_rfl)).trans e1) (((VO.nil w2 (w.heap.size + 2))).kept (fun k _ hk => hB.block k hk)) (by have h8 := blk_lt HU2.out; have := hB.size; have := H6.out; omega) b9 (⟨1, n9, ⟨#[]⟩⟩) ((hd 6 31 (by kernel_rfl)).trans e6) h9 (by simp) 1 rfl ?_
        intro p' c' W' k1 k2
        exact ⟨_, rfl, p', c', W, rfl, hB, k2, k1⟩
      case hend =>
        intro vs W hB2 hT
        obtain ⟨p', c', Wp, e7, k1, k2, k4⟩ := hB2
        have e8 : vs 8 = .pointer (some ⟨b6, 4, none⟩) := hT 8 (by decide) (by decide)
        have hR0 := VO.kept ((VO.nil w2 (w.heap.size + 2))) (fun k _ hk => k1.block k hk)
        have ne : ∀ i, i < w.heap.size + 2 → some i ≠ (.slice none 0 0 : Value).ownBlock := fun i hi e9 => by have := (hR0.lo e9.symm).1; omega
        have hO := (k2.block _ (blk_lt ((k1.block _ (blk_lt HO2.out)).trans HO2.out)) (ne _ (by omega))).trans ((k1.block _ (blk_lt HO2.out)).trans HO2.out)
        have hD := (k2.block _ (blk_lt ((k1.block _ (blk_lt HD2.out)).trans HD2.out)) (ne _ (by omega))).trans ((k1.block _ (blk_lt HD2.out)).trans HD2.out)
        have hUp := (k1.block _ (blk_lt HU2.out)).trans HU2.out
        have hU := (k2.block _ (blk_lt hUp) (fun e9 => own_ne hR0 hUp (by decide) e9.symm)).trans hUp
        have hB7 : Below w.heap.size w W := (below_trans HB2.out k1 HB2.out.size).grown k2 (below_trans HB2.out k1 HB2.out.size).size (fun i hi => by have := (hR0.lo hi).1; omega)
        refine ⟨b6, 4, [.int .i64 1, .string (tyN 3), .int .i64 M, .int .i64 at_, .slice none 0 0, .int .i64 0, .bool false], 44, .slice p' 1 c', [.slice p' 1 c'], Eq.trans (b := vs 8) (by kernel_rfl) e8, Eq.trans (b := vs 7) (by kernel_rfl) e7, rfl, hU, by simp, by kernel_rfl, rfl, ?_⟩
        intro w4 hq1 hq2
        have HU4 : Hid (w4.heap[b6]? = some (.cells #[.int .i64 1, .string (tyN 3), .int .i64 M, .int .i64 at_, .slice p' 1 c', .int .i64 0, .bool false] 44 (0, 0))) := hq1
        have HO4 := hid (blk_set hO hq2 (by have := H6.out; omega))
        have HD4 := hid (blk_set hD hq2 (by have := H6.out; omega))
        have HB4 : Hid (Below w.heap.size w w4) := below_fr hB7 hq2 (by have := H6.out; omega)
        have RW4 := hid (k4.fr hq2 hU (by decide))
        clear hq1 hq2 k1 k2 k4 hT hR0 ne hO hD hUp hU hB7
        simp only [putsD, Act.put, List.setIfInBounds_toArray, e7, e8]
        (try simp only [set_c20])
        simp only [List.set_cons_zero, List.set_cons_succ]
        clear e7 e8
        generalize vs 0 = v250
        generalize vs 1 = v251
        generalize vs 2 = v252
        generalize vs 3 = v253
        generalize vs 4 = v254
        generalize vs 5 = v255
        generalize vs 6 = v256
        clear vs
        have y0 : w4.cell? ⟨b6, 0, none⟩ = some (.int .i64 1) := by rw [cell_of_blk HU4.out]; rfl
        have y1 : w4.cell? ⟨b6, 1, none⟩ = some (.string (tyN 3)) := by rw [cell_of_blk HU4.out]; rfl
        have y2 : w4.cell? ⟨b6, 2, none⟩ = some (.int .i64 M) := by rw [cell_of_blk HU4.out]; rfl
        have y3 : w4.cell? ⟨b6, 3, none⟩ = some (.int .i64 at_) := by rw [cell_of_blk HU4.out]; rfl
        have y4 : w4.cell? ⟨b6, 4, none⟩ = some (.slice p' 1 c') := by rw [cell_of_blk HU4.out]; rfl
        have y5 : w4.cell? ⟨b6, 5, none⟩ = some (.int .i64 0) := by rw [cell_of_blk HU4.out]; rfl
        have y6 : w4.cell? ⟨b6, 6, none⟩ = some (.bool false) := by rw [cell_of_blk HU4.out]; rfl
        go_wp2_with ((with_reducible show wpList _ _ _ (Oper.mk _ (.store 44 _ _) _ _ _ _ :: _) _ _); refine wp_st (by rfl) 44 _ _ (by rfl) (w.heap.size + 1) 0 [.int .i64 0, .string ⟨#[]⟩, .int .i64 0, .int .i64 0, .slice none 0 0, .int .i64 0, .bool false] 44 (.agg #[.int .i64 1, .string (tyN 3), .int .i64 M, .int .i64 at_, .slice p' 1 c', .int .i64 0, .bool false]) [.int .i64 1, .string (tyN 3), .int .i64 M, .int .i64 at_, .slice p' 1 c', .int .i64 0, .bool false] (by rfl) (by rfl) (by rfl) HO4.out (by simp) (by kernel_rfl) (by rfl) ?_; intro wz hq1 hq2; have HUz := hid hq1; have HFz := hid hq2; clear hq1 hq2)
        have HBz := below_fr HB4.out HFz.out (by omega)
        have hRd : VO wz (w.heap.size + 2) _ ([⟨1, n9, ⟨#[]⟩⟩] : List Vl) := RW4.out.fr HFz.out HO4.out (by decide)
        exact ret_loc (w.heap.size + 1) [.int .i64 1, .string (tyN 3), .int .i64 M, .int .i64 at_, .slice p' 1 c', .int .i64 0, .bool false] 44 _ HUz.out rfl rfl (by rfl) Try.underlying44 rfl (by kernel_rfl) ⟨_, rfl, hRd, HBz⟩
end Go.Proofs.Ytepgkemnpcadiab
