/-
  An act out of its bytes; the act at the beginning of bytes.
-/
import Derived.Test.YtepgkemnpcadiaaTh
import Derived.Test.YtepgkemnpcadiaaXa
import Derived.Test.YtepgkemnpcadiaaZp
namespace Go.Proofs.Ytepgkemnpcadiaa
open Go.ChangeShapes Go.WideShapes Go.ChangeAt Go.RowKit Go.Maps
set_option linter.unusedVariables false
set_option linter.unusedSimpArgs false
set_option maxRecDepth 20000
/-- An act's own bytes, read. -/
def dcA : List UInt8 → Ac × Bool
  | [] => (⟨1, (dcR []).1, 0, ⟨#[]⟩⟩, decide ((dcR []).2 = 0))
  | c :: r => if c = 0 then (⟨4, zop, 0, tx r⟩, decide (r.length ≤ 3000)) else (⟨1, (dcR (c :: r)).1, 0, ⟨#[]⟩⟩, decide ((dcR (c :: r)).2 = 0))
def zac : Ac := ⟨0, zop, 0, ⟨#[]⟩⟩
theorem ach_tx (r : List UInt8) : ach ⟨4, zop, 0, tx r⟩ = if 3000 < r.length then 1 else 0 := by
  rw [ach_4 (by unfold emp zop; simp [Lib.toList_data]), tx_size]
theorem ent_tcheck : ∀ args w, (callFunc 9 args).run Try.prog w = .ok (.enter 9 args) w := enters_of Try.func9 (by kernel_rfl) rfl
set_option maxHeartbeats 16000000 in
theorem tdecS_any (r : List UInt8) (g off n cap : Nat) (w : World) (hn : r.length = n) (hv : BA w (.slice (some ⟨g, off, none⟩) (n + 1) cap) (0 :: r)) :
    Calls Try.prog 54 #[.slice (some ⟨g, off, none⟩) (n + 1) cap] w fun e w' => e = .returned (.tuple #[acv ⟨4, zop, 0, tx r⟩ (.slice none 0 0), .bool (decide (r.length ≤ 3000))]) ∧ Below w.heap.size w w' := by
  have HC := hid (fun W => tcheck_any ⟨4, zop, 0, tx r⟩ (.slice none 0 0) W (VO.nil W 0).va)
  rw [ach_tx] at HC
  have HN := hid hn
  obtain ⟨p', c', e, hc1, hc2, hx⟩ := hv
  simp at e
  obtain ⟨rfl, -, rfl⟩ := e
  obtain ⟨g', off', hp, hxx⟩ := hx (by simp)
  cases hp
  have b0 : w.cell? ⟨g, off, none⟩ = some (.int .u8 0) := by have := (hxx 0 (by simp)).2; simpa using this
  have hgs : g < w.heap.size := (hxx 0 (by simp)).1
  have hbr : BR w (.slice (some ⟨g, off + 1, none⟩) r.length (cap - 1)) r := ⟨_, _, rfl, fun _ => ⟨g, off + 1, rfl, fun j hj => by
    have := hxx (j + 1) (by simp; omega)
    refine ⟨this.1, ?_⟩
    rw [show off + 1 + j = off + (j + 1) by omega, this.2]
    simp⟩⟩
  rw [hn] at hbr
  have HBR := hid hbr
  have hcap : (n : Int) + 1 ≤ (cap : Int) := by simp at hc1; omega
  have hcm : (cap : Int) ≤ 9223372036854775807 := by unfold maxLen at hc2; omega
  obtain ⟨sr, hsr⟩ : ∃ sr, tx r = sr := ⟨_, rfl⟩
  obtain ⟨z, hz⟩ : ∃ z, (if 3000 < r.length then (1 : Int) else 0) = z := ⟨_, rfl⟩
  obtain ⟨bz, hbz⟩ : ∃ bz, decide (r.length ≤ 3000) = bz := ⟨_, rfl⟩
  have HZ : Hid ((z == 0) = bz) := by
    show _ = _
    rw [← hz, ← hbz]
    by_cases h : 3000 < r.length
    · rw [if_pos h]; simp; omega
    · rw [if_neg h]; simp; omega
  rw [hsr, hz] at HC
  rw [hsr, hbz]
  have HSR := hid hsr
  clear hc1 hc2 hx hxx hbr hsr hz hbz hn
  unfold acv zop at HC ⊢
  simp only at HC ⊢
  have HB0 : ∀ o, Below w.heap.size w (w.alloc o) := fun o => (Below.refl _ _).alloc (Nat.le_refl _) _
  go_enter Try.func54, Try.ntmps54
  go_upto_region 1 with fail
  have b1 : (w.alloc (.cells #[.int .i64 0, .int .i64 0, .string ⟨#[]⟩, .int .i64 0, .int .i64 0, .slice none 0 0, .int .i64 0, .bool false, .int .i64 0, .string ⟨#[]⟩] 28)).cell? ⟨g, off, none⟩ = some (.int .u8 0) := (World.cell?_alloc_past _ _ _ hgs).trans b0
  have hcv : (convert 32 9 (.slice (some ⟨g, off + 1, none⟩) n (cap - 1))).run Try.prog (w.alloc (.cells #[.int .i64 0, .int .i64 0, .string ⟨#[]⟩, .int .i64 0, .int .i64 0, .slice none 0 0, .int .i64 0, .bool false, .int .i64 0, .string ⟨#[]⟩] 28)) = .ok (.string sr) (w.alloc (.cells #[.int .i64 0, .int .i64 0, .string ⟨#[]⟩, .int .i64 0, .int .i64 0, .slice none 0 0, .int .i64 0, .bool false, .int .i64 0, .string ⟨#[]⟩] 28)) := by rw [← HSR.out]; exact (HBR.out.below (HB0 _)).conv
  have hcvA : cap = 1 → (convert 32 9 (.slice (some ⟨g, off, none⟩) n 0)).run Try.prog (w.alloc (.cells #[.int .i64 0, .int .i64 0, .string ⟨#[]⟩, .int .i64 0, .int .i64 0, .slice none 0 0, .int .i64 0, .bool false, .int .i64 0, .string ⟨#[]⟩] 28)) = .ok (.string sr) (w.alloc (.cells #[.int .i64 0, .int .i64 0, .string ⟨#[]⟩, .int .i64 0, .int .i64 0, .slice none 0 0, .int .i64 0, .bool false, .int .i64 0, .string ⟨#[]⟩] 28)) := fun hc => by
    have hr0 : r = [] := List.eq_nil_of_length_eq_zero (by have := HN.out; omega)
    have hn0 : n = 0 := by have := HN.out; omega
    rw [← HSR.out, hr0, hn0]
    exact BR.conv (l := []) ⟨_, _, rfl, fun h => absurd h (by simp)⟩
  have HT2 : Hid ((w.alloc (.cells #[.int .i64 0, .int .i64 0, .string ⟨#[]⟩, .int .i64 0, .int .i64 0, .slice none 0 0, .int .i64 0, .bool false, .int .i64 0, .string ⟨#[]⟩] 28)).heap[w.heap.size]? = some (.cells #[.int .i64 0, .int .i64 0, .string ⟨#[]⟩, .int .i64 0, .int .i64 0, .slice none 0 0, .int .i64 0, .bool false, .int .i64 0, .string ⟨#[]⟩] 28 (0, 0))) := heap_alloc_new _ _
  have HB : Hid (Below w.heap.size w (w.alloc (.cells #[.int .i64 0, .int .i64 0, .string ⟨#[]⟩, .int .i64 0, .int .i64 0, .slice none 0 0, .int .i64 0, .bool false, .int .i64 0, .string ⟨#[]⟩] 28))) := HB0 _
  generalize w.alloc (.cells #[.int .i64 0, .int .i64 0, .string ⟨#[]⟩, .int .i64 0, .int .i64 0, .slice none 0 0, .int .i64 0, .bool false, .int .i64 0, .string ⟨#[]⟩] 28) = w1 at HT2 HB b1 hcv hcvA ⊢
  have HLT : Hid (w.heap.size < w1.heap.size) := blk_lt HT2.out
  by_cases hc1 : cap = 1
  · have hcv0 := hcvA hc1
    have hn0 : n = 0 := by subst hc1; omega
    clear hcvA hcv
    subst hc1
    subst hn0
    go_upto_region 3 with ((with_reducible show wpList _ _ _ (Oper.mk _ (.store 28 _ _) _ _ _ _ :: _) _ _); refine wp_st (by rfl) 28 _ _ (by rfl) w1.heap.size 0 [.int .i64 0, .int .i64 0, .string ⟨#[]⟩, .int .i64 0, .int .i64 0, .slice none 0 0, .int .i64 0, .bool false, .int .i64 0, .string ⟨#[]⟩] 28 (.agg #[.int .i64 4, .int .i64 0, .string ⟨#[]⟩, .int .i64 0, .int .i64 0, .slice none 0 0, .int .i64 0, .bool false, .int .i64 0, .string sr]) [.int .i64 4, .int .i64 0, .string ⟨#[]⟩, .int .i64 0, .int .i64 0, .slice none 0 0, .int .i64 0, .bool false, .int .i64 0, .string sr] (by rfl) (by rfl) (by rfl) (heap_alloc_new _ _) (by simp) (by kernel_rfl) (by rfl) ?_; intro w3 hq1 hq2; have HU3 := hid hq1; have HF3 := hid hq2; clear hq1 hq2)
    have HBn3 : Hid (Below w1.heap.size w1 w3) := below_fr ((Below.refl _ _).alloc (Nat.le_refl _) _) HF3.out (Nat.le_refl _)
    replace HT2 : Hid (w3.heap[w.heap.size]? = some (.cells #[.int .i64 0, .int .i64 0, .string ⟨#[]⟩, .int .i64 0, .int .i64 0, .slice none 0 0, .int .i64 0, .bool false, .int .i64 0, .string ⟨#[]⟩] 28 (0, 0))) := (HBn3.out.block _ (blk_lt HT2.out)).trans HT2.out
    replace HB : Hid (Below w.heap.size w w3) := below_trans HB.out HBn3.out HB.out.size
    have HT4 : Hid (w3.heap[w1.heap.size]? = some (.cells #[.int .i64 4, .int .i64 0, .string ⟨#[]⟩, .int .i64 0, .int .i64 0, .slice none 0 0, .int .i64 0, .bool false, .int .i64 0, .string sr] 28 (0, 0))) := HU3.out
    clear HU3 HF3
    clear b0 b1 HB0
    have HKS : Hid (∀ W : World, W.heap[w1.heap.size]? = some (.cells #[.int .i64 4, .int .i64 0, .string ⟨#[]⟩, .int .i64 0, .int .i64 0, .slice none 0 0, .int .i64 0, .bool false, .int .i64 0, .string sr] 28 (0, 0)) → W.heap[w1.heap.size]? = some (.cells #[.int .i64 4, .int .i64 0, .string ⟨#[]⟩, .int .i64 0, .int .i64 0, .slice none 0 0, .int .i64 0, .bool false, .int .i64 0, .string sr] 28 (0, 0)) ∧ W.cell? ⟨w1.heap.size, 0, none⟩ = some (.int .i64 4) ∧ W.cell? ⟨w1.heap.size, 1, none⟩ = some (.int .i64 0) ∧ W.cell? ⟨w1.heap.size, 2, none⟩ = some (.string ⟨#[]⟩) ∧ W.cell? ⟨w1.heap.size, 3, none⟩ = some (.int .i64 0) ∧ W.cell? ⟨w1.heap.size, 4, none⟩ = some (.int .i64 0) ∧ W.cell? ⟨w1.heap.size, 5, none⟩ = some (.slice none 0 0) ∧ W.cell? ⟨w1.heap.size, 6, none⟩ = some (.int .i64 0) ∧ W.cell? ⟨w1.heap.size, 7, none⟩ = some (.bool false) ∧ W.cell? ⟨w1.heap.size, 8, none⟩ = some (.int .i64 0) ∧ W.cell? ⟨w1.heap.size, 9, none⟩ = some (.string sr)) := fun W h => ⟨h, by rw [cell_of_blk h]; rfl, by rw [cell_of_blk h]; rfl, by rw [cell_of_blk h]; rfl, by rw [cell_of_blk h]; rfl, by rw [cell_of_blk h]; rfl, by rw [cell_of_blk h]; rfl, by rw [cell_of_blk h]; rfl, by rw [cell_of_blk h]; rfl, by rw [cell_of_blk h]; rfl, by rw [cell_of_blk h]; rfl⟩
    refine start_n (S := (fun w' => w'.heap[w1.heap.size]? = some (.cells #[.int .i64 4, .int .i64 0, .string ⟨#[]⟩, .int .i64 0, .int .i64 0, .slice none 0 0, .int .i64 0, .bool false, .int .i64 0, .string sr] 28 (0, 0)) ∧ w'.cell? ⟨w1.heap.size, 0, none⟩ = some (.int .i64 4) ∧ w'.cell? ⟨w1.heap.size, 1, none⟩ = some (.int .i64 0) ∧ w'.cell? ⟨w1.heap.size, 2, none⟩ = some (.string ⟨#[]⟩) ∧ w'.cell? ⟨w1.heap.size, 3, none⟩ = some (.int .i64 0) ∧ w'.cell? ⟨w1.heap.size, 4, none⟩ = some (.int .i64 0) ∧ w'.cell? ⟨w1.heap.size, 5, none⟩ = some (.slice none 0 0) ∧ w'.cell? ⟨w1.heap.size, 6, none⟩ = some (.int .i64 0) ∧ w'.cell? ⟨w1.heap.size, 7, none⟩ = some (.bool false) ∧ w'.cell? ⟨w1.heap.size, 8, none⟩ = some (.int .i64 0) ∧ w'.cell? ⟨w1.heap.size, 9, none⟩ = some (.string sr))) 6 #[false, false, false, false, false, false] rfl rfl (by kernel_rfl) (HKS.out _ (by exact HT4.out)) (fun hHeld => ?_)
    refine take_mk (i := 0) (v := ?v1) rfl (by kernel_rfl) (by kernel_rfl) (by kernel_rfl) (fun _ _ _ h => h) (Or.inl ⟨by rfl, ?hy1⟩) (by assumption) ?rest1
    case hy1 => (intro w0 hSw; (try dsimp only at hSw); go_simp <;> (try (with_reducible rfl)))
    (try simp only [Act.put, List.setIfInBounds_toArray, List.set_cons_zero, List.set_cons_succ])
    refine take_mk (i := 1) (v := ?v2) rfl (by kernel_rfl) (by kernel_rfl) (by kernel_rfl) (fun _ _ _ h => h) (Or.inl ⟨by rfl, ?hy2⟩) (by assumption) ?rest2
    case hy2 => (intro w0 hSw; (try dsimp only at hSw); go_simp <;> (try (with_reducible rfl)))
    (try simp only [Act.put, List.setIfInBounds_toArray, List.set_cons_zero, List.set_cons_succ])
    refine wpAnyH_ready (rs := [2]) (by kernel_rfl) (by simp) ?_
    refine cons_mk rfl (fun K hK => ?_) AllReadyH.nil
    refine want_mk (by rfl) ?_
    refine op_cl 9 ent_tcheck _ _ (by rfl) #[.agg #[.int .i64 4, .int .i64 0, .string ⟨#[]⟩, .int .i64 0, .int .i64 0, .slice none 0 0, .int .i64 0, .bool false, .int .i64 0, .string sr]] (by simp only [List.map_toArray, List.map_cons, List.map_nil]; rfl) _ (HC.out _) ?_
    rintro e w5 ⟨rfl, hb⟩
    refine ⟨_, rfl, ?_⟩
    have HB5 : Hid (Below w.heap.size w w5) := below_trans HB.out.drew hb (by have := HB.out.size; simpa using this)
    have HD5 : Hid (w5.heap[w1.heap.size]? = some (.cells #[.int .i64 4, .int .i64 0, .string ⟨#[]⟩, .int .i64 0, .int .i64 0, .slice none 0 0, .int .i64 0, .bool false, .int .i64 0, .string sr] 28 (0, 0))) := (hb.block _ (blk_lt HT4.out)).trans HT4.out
    have HR5 : Hid (w5.heap[w.heap.size]? = some (.cells #[.int .i64 0, .int .i64 0, .string ⟨#[]⟩, .int .i64 0, .int .i64 0, .slice none 0 0, .int .i64 0, .bool false, .int .i64 0, .string ⟨#[]⟩] 28 (0, 0))) := (hb.block _ (blk_lt HT2.out)).trans HT2.out
    clear hb
    refine hK.out _ _ (HKS.out _ HD5.out) (fun hHeld => ?_)
    clear hK K
    (try simp only [Act.put, List.setIfInBounds_toArray, List.set_cons_zero, List.set_cons_succ])
    refine take_mk (i := 3) (v := ?v3) rfl (by kernel_rfl) (by kernel_rfl) (by kernel_rfl) (fun _ _ _ h => h) (Or.inl ⟨by rfl, ?hy3⟩) (by assumption) ?rest3
    case hy3 => (intro w0 hSw; (try dsimp only at hSw); go_simp <;> (try (with_reducible rfl)))
    (try simp only [Act.put, List.setIfInBounds_toArray, List.set_cons_zero, List.set_cons_succ])
    refine wpAnyH_ready (rs := [4]) (by kernel_rfl) (by simp) ?_
    refine cons_mk rfl (fun K hK => ?_) AllReadyH.nil
    refine want_mk (by rfl) ?_
    refine op_st 28 _ _ (by rfl) w.heap.size 0 [.int .i64 0, .int .i64 0, .string ⟨#[]⟩, .int .i64 0, .int .i64 0, .slice none 0 0, .int .i64 0, .bool false, .int .i64 0, .string ⟨#[]⟩] 28 (.agg #[.int .i64 4, .int .i64 0, .string ⟨#[]⟩, .int .i64 0, .int .i64 0, .slice none 0 0, .int .i64 0, .bool false, .int .i64 0, .string sr]) [.int .i64 4, .int .i64 0, .string ⟨#[]⟩, .int .i64 0, .int .i64 0, .slice none 0 0, .int .i64 0, .bool false, .int .i64 0, .string sr] (by rfl) (by rfl) (by rfl) HR5.out (by simp) (by kernel_rfl) (by rfl) ?_
    intro w6 hq1 hq2
    have HU6 := hid hq1
    have HF6 := hid hq2
    clear hq1 hq2
    refine hK.out _ _ (HKS.out _ (blk_set HD5.out HF6.out (by have := HLT.out; omega))) (fun hHeld => ?_)
    clear hK K
    (try simp only [Act.put, List.setIfInBounds_toArray, List.set_cons_zero, List.set_cons_succ])
    refine take_mk (i := 5) (v := ?v4) rfl (by kernel_rfl) (by kernel_rfl) (by kernel_rfl) (fun _ _ _ h => h) (Or.inl ⟨by rfl, ?hy4⟩) (by assumption) ?rest4
    case hy4 => (intro w0 hSw; (try dsimp only at hSw); go_simp <;> (try (with_reducible rfl)))
    (try simp only [Act.put, List.setIfInBounds_toArray, List.set_cons_zero, List.set_cons_succ])
    refine wpAnyH_done (by kernel_rfl) ?_ _
    go_wp2_with fail
    refine ret_twoT w.heap.size [.int .i64 4, .int .i64 0, .string ⟨#[]⟩, .int .i64 0, .int .i64 0, .slice none 0 0, .int .i64 0, .bool false, .int .i64 0, .string sr] 28 _ HU6.out rfl rfl (by rfl) Try.underlying28 rfl (by kernel_rfl) ⟨?_, below_fr HB5.out HF6.out (by omega)⟩
    rw [← HZ.out]
    rfl
  · have hc2 : ¬ cap = 1 := hc1
    clear hcvA
    go_upto_region 3 with ((with_reducible show wpList _ _ _ (Oper.mk _ (.store 28 _ _) _ _ _ _ :: _) _ _); refine wp_st (by rfl) 28 _ _ (by rfl) w1.heap.size 0 [.int .i64 0, .int .i64 0, .string ⟨#[]⟩, .int .i64 0, .int .i64 0, .slice none 0 0, .int .i64 0, .bool false, .int .i64 0, .string ⟨#[]⟩] 28 (.agg #[.int .i64 4, .int .i64 0, .string ⟨#[]⟩, .int .i64 0, .int .i64 0, .slice none 0 0, .int .i64 0, .bool false, .int .i64 0, .string sr]) [.int .i64 4, .int .i64 0, .string ⟨#[]⟩, .int .i64 0, .int .i64 0, .slice none 0 0, .int .i64 0, .bool false, .int .i64 0, .string sr] (by rfl) (by rfl) (by rfl) (heap_alloc_new _ _) (by simp) (by kernel_rfl) (by rfl) ?_; intro w3 hq1 hq2; have HU3 := hid hq1; have HF3 := hid hq2; clear hq1 hq2)
    have HBn3 : Hid (Below w1.heap.size w1 w3) := below_fr ((Below.refl _ _).alloc (Nat.le_refl _) _) HF3.out (Nat.le_refl _)
    replace HT2 : Hid (w3.heap[w.heap.size]? = some (.cells #[.int .i64 0, .int .i64 0, .string ⟨#[]⟩, .int .i64 0, .int .i64 0, .slice none 0 0, .int .i64 0, .bool false, .int .i64 0, .string ⟨#[]⟩] 28 (0, 0))) := (HBn3.out.block _ (blk_lt HT2.out)).trans HT2.out
    replace HB : Hid (Below w.heap.size w w3) := below_trans HB.out HBn3.out HB.out.size
    have HT4 : Hid (w3.heap[w1.heap.size]? = some (.cells #[.int .i64 4, .int .i64 0, .string ⟨#[]⟩, .int .i64 0, .int .i64 0, .slice none 0 0, .int .i64 0, .bool false, .int .i64 0, .string sr] 28 (0, 0))) := HU3.out
    clear HU3 HF3
    clear b0 b1 HB0
    have HKS : Hid (∀ W : World, W.heap[w1.heap.size]? = some (.cells #[.int .i64 4, .int .i64 0, .string ⟨#[]⟩, .int .i64 0, .int .i64 0, .slice none 0 0, .int .i64 0, .bool false, .int .i64 0, .string sr] 28 (0, 0)) → W.heap[w1.heap.size]? = some (.cells #[.int .i64 4, .int .i64 0, .string ⟨#[]⟩, .int .i64 0, .int .i64 0, .slice none 0 0, .int .i64 0, .bool false, .int .i64 0, .string sr] 28 (0, 0)) ∧ W.cell? ⟨w1.heap.size, 0, none⟩ = some (.int .i64 4) ∧ W.cell? ⟨w1.heap.size, 1, none⟩ = some (.int .i64 0) ∧ W.cell? ⟨w1.heap.size, 2, none⟩ = some (.string ⟨#[]⟩) ∧ W.cell? ⟨w1.heap.size, 3, none⟩ = some (.int .i64 0) ∧ W.cell? ⟨w1.heap.size, 4, none⟩ = some (.int .i64 0) ∧ W.cell? ⟨w1.heap.size, 5, none⟩ = some (.slice none 0 0) ∧ W.cell? ⟨w1.heap.size, 6, none⟩ = some (.int .i64 0) ∧ W.cell? ⟨w1.heap.size, 7, none⟩ = some (.bool false) ∧ W.cell? ⟨w1.heap.size, 8, none⟩ = some (.int .i64 0) ∧ W.cell? ⟨w1.heap.size, 9, none⟩ = some (.string sr)) := fun W h => ⟨h, by rw [cell_of_blk h]; rfl, by rw [cell_of_blk h]; rfl, by rw [cell_of_blk h]; rfl, by rw [cell_of_blk h]; rfl, by rw [cell_of_blk h]; rfl, by rw [cell_of_blk h]; rfl, by rw [cell_of_blk h]; rfl, by rw [cell_of_blk h]; rfl, by rw [cell_of_blk h]; rfl, by rw [cell_of_blk h]; rfl⟩
    refine start_n (S := (fun w' => w'.heap[w1.heap.size]? = some (.cells #[.int .i64 4, .int .i64 0, .string ⟨#[]⟩, .int .i64 0, .int .i64 0, .slice none 0 0, .int .i64 0, .bool false, .int .i64 0, .string sr] 28 (0, 0)) ∧ w'.cell? ⟨w1.heap.size, 0, none⟩ = some (.int .i64 4) ∧ w'.cell? ⟨w1.heap.size, 1, none⟩ = some (.int .i64 0) ∧ w'.cell? ⟨w1.heap.size, 2, none⟩ = some (.string ⟨#[]⟩) ∧ w'.cell? ⟨w1.heap.size, 3, none⟩ = some (.int .i64 0) ∧ w'.cell? ⟨w1.heap.size, 4, none⟩ = some (.int .i64 0) ∧ w'.cell? ⟨w1.heap.size, 5, none⟩ = some (.slice none 0 0) ∧ w'.cell? ⟨w1.heap.size, 6, none⟩ = some (.int .i64 0) ∧ w'.cell? ⟨w1.heap.size, 7, none⟩ = some (.bool false) ∧ w'.cell? ⟨w1.heap.size, 8, none⟩ = some (.int .i64 0) ∧ w'.cell? ⟨w1.heap.size, 9, none⟩ = some (.string sr))) 6 #[false, false, false, false, false, false] rfl rfl (by kernel_rfl) (HKS.out _ (by exact HT4.out)) (fun hHeld => ?_)
    refine take_mk (i := 0) (v := ?vb5) rfl (by kernel_rfl) (by kernel_rfl) (by kernel_rfl) (fun _ _ _ h => h) (Or.inl ⟨by rfl, ?hyb5⟩) (by assumption) ?restb5
    case hyb5 => (intro w0 hSw; (try dsimp only at hSw); go_simp <;> (try (with_reducible rfl)))
    (try simp only [Act.put, List.setIfInBounds_toArray, List.set_cons_zero, List.set_cons_succ])
    refine take_mk (i := 1) (v := ?vb6) rfl (by kernel_rfl) (by kernel_rfl) (by kernel_rfl) (fun _ _ _ h => h) (Or.inl ⟨by rfl, ?hyb6⟩) (by assumption) ?restb6
    case hyb6 => (intro w0 hSw; (try dsimp only at hSw); go_simp <;> (try (with_reducible rfl)))
    (try simp only [Act.put, List.setIfInBounds_toArray, List.set_cons_zero, List.set_cons_succ])
    refine wpAnyH_ready (rs := [2]) (by kernel_rfl) (by simp) ?_
    refine cons_mk rfl (fun K hK => ?_) AllReadyH.nil
    refine want_mk (by rfl) ?_
    refine op_cl 9 ent_tcheck _ _ (by rfl) #[.agg #[.int .i64 4, .int .i64 0, .string ⟨#[]⟩, .int .i64 0, .int .i64 0, .slice none 0 0, .int .i64 0, .bool false, .int .i64 0, .string sr]] (by simp only [List.map_toArray, List.map_cons, List.map_nil]; rfl) _ (HC.out _) ?_
    rintro e w5 ⟨rfl, hb⟩
    refine ⟨_, rfl, ?_⟩
    have HB5 : Hid (Below w.heap.size w w5) := below_trans HB.out.drew hb (by have := HB.out.size; simpa using this)
    have HD5 : Hid (w5.heap[w1.heap.size]? = some (.cells #[.int .i64 4, .int .i64 0, .string ⟨#[]⟩, .int .i64 0, .int .i64 0, .slice none 0 0, .int .i64 0, .bool false, .int .i64 0, .string sr] 28 (0, 0))) := (hb.block _ (blk_lt HT4.out)).trans HT4.out
    have HR5 : Hid (w5.heap[w.heap.size]? = some (.cells #[.int .i64 0, .int .i64 0, .string ⟨#[]⟩, .int .i64 0, .int .i64 0, .slice none 0 0, .int .i64 0, .bool false, .int .i64 0, .string ⟨#[]⟩] 28 (0, 0))) := (hb.block _ (blk_lt HT2.out)).trans HT2.out
    clear hb
    refine hK.out _ _ (HKS.out _ HD5.out) (fun hHeld => ?_)
    clear hK K
    (try simp only [Act.put, List.setIfInBounds_toArray, List.set_cons_zero, List.set_cons_succ])
    refine take_mk (i := 3) (v := ?vb7) rfl (by kernel_rfl) (by kernel_rfl) (by kernel_rfl) (fun _ _ _ h => h) (Or.inl ⟨by rfl, ?hyb7⟩) (by assumption) ?restb7
    case hyb7 => (intro w0 hSw; (try dsimp only at hSw); go_simp <;> (try (with_reducible rfl)))
    (try simp only [Act.put, List.setIfInBounds_toArray, List.set_cons_zero, List.set_cons_succ])
    refine wpAnyH_ready (rs := [4]) (by kernel_rfl) (by simp) ?_
    refine cons_mk rfl (fun K hK => ?_) AllReadyH.nil
    refine want_mk (by rfl) ?_
    refine op_st 28 _ _ (by rfl) w.heap.size 0 [.int .i64 0, .int .i64 0, .string ⟨#[]⟩, .int .i64 0, .int .i64 0, .slice none 0 0, .int .i64 0, .bool false, .int .i64 0, .string ⟨#[]⟩] 28 (.agg #[.int .i64 4, .int .i64 0, .string ⟨#[]⟩, .int .i64 0, .int .i64 0, .slice none 0 0, .int .i64 0, .bool false, .int .i64 0, .string sr]) [.int .i64 4, .int .i64 0, .string ⟨#[]⟩, .int .i64 0, .int .i64 0, .slice none 0 0, .int .i64 0, .bool false, .int .i64 0, .string sr] (by rfl) (by rfl) (by rfl) HR5.out (by simp) (by kernel_rfl) (by rfl) ?_
    intro w6 hq1 hq2
    have HU6 := hid hq1
    have HF6 := hid hq2
    clear hq1 hq2
    refine hK.out _ _ (HKS.out _ (blk_set HD5.out HF6.out (by have := HLT.out; omega))) (fun hHeld => ?_)
    clear hK K
    (try simp only [Act.put, List.setIfInBounds_toArray, List.set_cons_zero, List.set_cons_succ])
    refine take_mk (i := 5) (v := ?vb8) rfl (by kernel_rfl) (by kernel_rfl) (by kernel_rfl) (fun _ _ _ h => h) (Or.inl ⟨by rfl, ?hyb8⟩) (by assumption) ?restb8
    case hyb8 => (intro w0 hSw; (try dsimp only at hSw); go_simp <;> (try (with_reducible rfl)))
    (try simp only [Act.put, List.setIfInBounds_toArray, List.set_cons_zero, List.set_cons_succ])
    refine wpAnyH_done (by kernel_rfl) ?_ _
    go_wp2_with fail
    refine ret_twoT w.heap.size [.int .i64 4, .int .i64 0, .string ⟨#[]⟩, .int .i64 0, .int .i64 0, .slice none 0 0, .int .i64 0, .bool false, .int .i64 0, .string sr] 28 _ HU6.out rfl rfl (by rfl) Try.underlying28 rfl (by kernel_rfl) ⟨?_, below_fr HB5.out HF6.out (by omega)⟩
    rw [← HZ.out]
    rfl
set_option maxHeartbeats 16000000 in
theorem tdecD_any (b : List UInt8) (p : Option Addr) (n cap : Nat) (w : World) (hn : b.length = n) (hv : BA w (.slice p n cap) b) (h0 : ∀ r, b ≠ 0 :: r) :
    Calls Try.prog 54 #[.slice p n cap] w fun e w' => ∃ u, e = .returned (.tuple #[acv ⟨1, (dcR b).1, 0, ⟨#[]⟩⟩ u, .bool (decide ((dcR b).2 = 0))]) ∧ VO w' w.heap.size u (dcR b).1.l ∧ Below w.heap.size w w' := by
  have HV := hid hv
  have HD := hid (fun W (h : BA W (.slice p n cap) b) => decode_any b (.slice p n cap) W h)
  have HX : Hid (0 < n → ∃ (g off : Nat) (c : UInt8), p = some ⟨g, off, none⟩ ∧ c ≠ 0 ∧ g < w.heap.size ∧ w.cell? ⟨g, off, none⟩ = some (.int .u8 (c.toNat : Int))) := fun hp => by
    obtain ⟨p', c', e, _, _, hx⟩ := hv
    simp at e
    obtain ⟨rfl, -, rfl⟩ := e
    obtain ⟨g, off, hp', hxx⟩ := hx (by omega)
    cases b with
    | nil => simp at hn; omega
    | cons c r =>
      refine ⟨g, off, c, hp', fun hc => h0 r (by rw [hc]), (hxx 0 (by simp)).1, ?_⟩
      have := (hxx 0 (by simp)).2
      simpa using this
  obtain ⟨⟨o, z⟩, hd⟩ : ∃ x, dcR b = x := ⟨_, rfl⟩
  rw [hd] at HD ⊢
  simp only at HD ⊢
  obtain ⟨k, s, a, b', vs, d, c⟩ := o
  unfold opv at HD
  unfold acv
  simp only at HD ⊢
  clear hd hv h0 hn
  have HZ : Hid ((z == 0) = decide (z = 0)) := by show _ = _; by_cases h : z = 0 <;> simp [h]
  obtain ⟨bz, hbz⟩ : ∃ bz, decide (z = 0) = bz := ⟨_, rfl⟩
  rw [hbz] at HZ ⊢
  clear hbz
  have HB0 : ∀ o, Below w.heap.size w (w.alloc o) := fun o => (Below.refl _ _).alloc (Nat.le_refl _) _
  go_enter Try.func54, Try.ntmps54
  go_upto_region 1 with fail
  have HT2 : Hid ((w.alloc (.cells #[.int .i64 0, .int .i64 0, .string ⟨#[]⟩, .int .i64 0, .int .i64 0, .slice none 0 0, .int .i64 0, .bool false, .int .i64 0, .string ⟨#[]⟩] 28)).heap[w.heap.size]? = some (.cells #[.int .i64 0, .int .i64 0, .string ⟨#[]⟩, .int .i64 0, .int .i64 0, .slice none 0 0, .int .i64 0, .bool false, .int .i64 0, .string ⟨#[]⟩] 28 (0, 0))) := heap_alloc_new _ _
  have HB : Hid (Below w.heap.size w (w.alloc (.cells #[.int .i64 0, .int .i64 0, .string ⟨#[]⟩, .int .i64 0, .int .i64 0, .slice none 0 0, .int .i64 0, .bool false, .int .i64 0, .string ⟨#[]⟩] 28))) := HB0 _
  have HV1 : Hid (BA (w.alloc (.cells #[.int .i64 0, .int .i64 0, .string ⟨#[]⟩, .int .i64 0, .int .i64 0, .slice none 0 0, .int .i64 0, .bool false, .int .i64 0, .string ⟨#[]⟩] 28)) (.slice p n cap) b) := BA.below (B := 0) HV.out (HB0 _)
  have HX1 : Hid (0 < n → ∃ (g off : Nat) (c : UInt8), p = some ⟨g, off, none⟩ ∧ c ≠ 0 ∧ (w.alloc (.cells #[.int .i64 0, .int .i64 0, .string ⟨#[]⟩, .int .i64 0, .int .i64 0, .slice none 0 0, .int .i64 0, .bool false, .int .i64 0, .string ⟨#[]⟩] 28)).cell? ⟨g, off, none⟩ = some (.int .u8 (c.toNat : Int))) := fun hp => by
    obtain ⟨g, off, c, e1, e2, e3, e4⟩ := HX.out hp
    exact ⟨g, off, c, e1, e2, (World.cell?_alloc_past _ _ _ e3).trans e4⟩
  generalize w.alloc (.cells #[.int .i64 0, .int .i64 0, .string ⟨#[]⟩, .int .i64 0, .int .i64 0, .slice none 0 0, .int .i64 0, .bool false, .int .i64 0, .string ⟨#[]⟩] 28) = w1 at HT2 HB HV1 HX1 ⊢
  have HLT : Hid (w.heap.size < w1.heap.size) := blk_lt HT2.out
  clear HX HB0
  by_cases hn0 : n = 0
  · subst hn0
    clear HX1
    go_wp2_with fail
    refine (HD.out _ HV1.out).mono ?_
    rintro e w3 ⟨u, rfl, ho, hb⟩
    obtain ⟨pu, nu, cu, hsh⟩ := ho.shape3
    subst hsh
    have HO3 := hid ho
    have HBh3 := hid hb
    clear ho hb
    replace HT2 : Hid (w3.heap[w.heap.size]? = some (.cells #[.int .i64 0, .int .i64 0, .string ⟨#[]⟩, .int .i64 0, .int .i64 0, .slice none 0 0, .int .i64 0, .bool false, .int .i64 0, .string ⟨#[]⟩] 28 (0, 0))) := (HBh3.out.block _ (blk_lt HT2.out)).trans HT2.out
    replace HB : Hid (Below w.heap.size w w3) := below_trans HB.out HBh3.out HB.out.size
    replace HV1 : Hid (BA w3 (.slice p 0 cap) b) := BA.below (B := 0) HV1.out HBh3.out
    have HVO : Hid (VO w3 w1.heap.size (.slice pu nu cu) vs) := HO3.out
    go_upto_region 5 with ((with_reducible show wpList _ _ _ (Oper.mk _ (.store 26 _ _) _ _ _ _ :: _) _ _); refine wp_st (by rfl) 26 _ _ (by rfl) w3.heap.size 0 [.int .i64 0, .string ⟨#[]⟩, .int .i64 0, .int .i64 0, .slice none 0 0, .int .i64 0, .bool false] 26 (.agg #[.int .i64 k, .string s, .int .i64 a, .int .i64 b', .slice pu nu cu, .int .i64 d, .bool c]) [.int .i64 k, .string s, .int .i64 a, .int .i64 b', .slice pu nu cu, .int .i64 d, .bool c] (by rfl) (by rfl) (by rfl) (heap_alloc_new _ _) (by simp) (by kernel_rfl) (by rfl) ?_; intro w5 hq1 hq2; have HU5 := hid hq1; have HF5 := hid hq2; clear hq1 hq2)
    have HBn5 : Hid (Below w3.heap.size w3 w5) := below_fr ((Below.refl _ _).alloc (Nat.le_refl _) _) HF5.out (Nat.le_refl _)
    replace HT2 : Hid (w5.heap[w.heap.size]? = some (.cells #[.int .i64 0, .int .i64 0, .string ⟨#[]⟩, .int .i64 0, .int .i64 0, .slice none 0 0, .int .i64 0, .bool false, .int .i64 0, .string ⟨#[]⟩] 28 (0, 0))) := (HBn5.out.block _ (blk_lt HT2.out)).trans HT2.out
    replace HB : Hid (Below w.heap.size w w5) := below_trans HB.out HBn5.out HB.out.size
    replace HV1 : Hid (BA w5 (.slice p 0 cap) b) := BA.below (B := 0) HV1.out HBn5.out
    replace HVO : Hid (VO w5 w1.heap.size (.slice pu nu cu) vs) := HVO.out.kept (fun i _ hi => HBn5.out.block i hi)
    have HT5 : Hid (w5.heap[w3.heap.size]? = some (.cells #[.int .i64 k, .string s, .int .i64 a, .int .i64 b', .slice pu nu cu, .int .i64 d, .bool c] 26 (0, 0))) := HU5.out
    clear HU5 HF5
    have x0 : w5.cell? ⟨w3.heap.size, 0, none⟩ = some (.int .i64 k) := by rw [cell_of_blk HT5.out]; rfl
    have x1 : w5.cell? ⟨w3.heap.size, 1, none⟩ = some (.string s) := by rw [cell_of_blk HT5.out]; rfl
    have x2 : w5.cell? ⟨w3.heap.size, 2, none⟩ = some (.int .i64 a) := by rw [cell_of_blk HT5.out]; rfl
    have x3 : w5.cell? ⟨w3.heap.size, 3, none⟩ = some (.int .i64 b') := by rw [cell_of_blk HT5.out]; rfl
    have x4 : w5.cell? ⟨w3.heap.size, 4, none⟩ = some (.slice pu nu cu) := by rw [cell_of_blk HT5.out]; rfl
    have x5 : w5.cell? ⟨w3.heap.size, 5, none⟩ = some (.int .i64 d) := by rw [cell_of_blk HT5.out]; rfl
    have x6 : w5.cell? ⟨w3.heap.size, 6, none⟩ = some (.bool c) := by rw [cell_of_blk HT5.out]; rfl
    go_wp2_with ((with_reducible show wpList _ _ _ (Oper.mk _ (.store 28 _ _) _ _ _ _ :: _) _ _); refine wp_st (by rfl) 28 _ _ (by rfl) w.heap.size 0 [.int .i64 0, .int .i64 0, .string ⟨#[]⟩, .int .i64 0, .int .i64 0, .slice none 0 0, .int .i64 0, .bool false, .int .i64 0, .string ⟨#[]⟩] 28 (.agg #[.int .i64 1, .int .i64 k, .string s, .int .i64 a, .int .i64 b', .slice pu nu cu, .int .i64 d, .bool c, .int .i64 0, .string ⟨#[]⟩]) [.int .i64 1, .int .i64 k, .string s, .int .i64 a, .int .i64 b', .slice pu nu cu, .int .i64 d, .bool c, .int .i64 0, .string ⟨#[]⟩] (by rfl) (by rfl) (by rfl) HT2.out (by simp) (by kernel_rfl) (by rfl) ?_; intro w6 hq1 hq2; have HU6 := hid hq1; have HF6 := hid hq2; clear hq1 hq2)
    refine ret_twoT w.heap.size [.int .i64 1, .int .i64 k, .string s, .int .i64 a, .int .i64 b', .slice pu nu cu, .int .i64 d, .bool c, .int .i64 0, .string ⟨#[]⟩] 28 _ HU6.out rfl rfl (by rfl) Try.underlying28 rfl (by kernel_rfl) ⟨.slice pu nu cu, ?_, (VO.fr HVO.out HF6.out HT2.out (by decide)).weak (by have := HLT.out; omega), below_fr HB.out HF6.out (by omega)⟩
    rw [← HZ.out]
    rfl
  · obtain ⟨g, off, c0, hp, hc0, hb0⟩ := HX1.out (by omega)
    subst hp
    have hn1 : (0 : Int) < (n : Int) := by omega
    have hc1 : ((c0.toNat : Int) == 0) = false := by
      have : c0.toNat ≠ 0 := fun h => hc0 (UInt8.toNat_inj.1 (by rw [h]; rfl))
      simp
      omega
    clear HX1
    go_wp2_with fail
    refine (HD.out _ HV1.out).mono ?_
    rintro e w3 ⟨u, rfl, ho, hb⟩
    obtain ⟨pu, nu, cu, hsh⟩ := ho.shape3
    subst hsh
    have HO3 := hid ho
    have HBh3 := hid hb
    clear ho hb
    replace HT2 : Hid (w3.heap[w.heap.size]? = some (.cells #[.int .i64 0, .int .i64 0, .string ⟨#[]⟩, .int .i64 0, .int .i64 0, .slice none 0 0, .int .i64 0, .bool false, .int .i64 0, .string ⟨#[]⟩] 28 (0, 0))) := (HBh3.out.block _ (blk_lt HT2.out)).trans HT2.out
    replace HB : Hid (Below w.heap.size w w3) := below_trans HB.out HBh3.out HB.out.size
    replace HV1 : Hid (BA w3 (.slice (some ⟨g,off,none⟩) n cap) b) := BA.below (B := 0) HV1.out HBh3.out
    have HVO : Hid (VO w3 w1.heap.size (.slice pu nu cu) vs) := HO3.out
    go_upto_region 5 with ((with_reducible show wpList _ _ _ (Oper.mk _ (.store 26 _ _) _ _ _ _ :: _) _ _); refine wp_st (by rfl) 26 _ _ (by rfl) w3.heap.size 0 [.int .i64 0, .string ⟨#[]⟩, .int .i64 0, .int .i64 0, .slice none 0 0, .int .i64 0, .bool false] 26 (.agg #[.int .i64 k, .string s, .int .i64 a, .int .i64 b', .slice pu nu cu, .int .i64 d, .bool c]) [.int .i64 k, .string s, .int .i64 a, .int .i64 b', .slice pu nu cu, .int .i64 d, .bool c] (by rfl) (by rfl) (by rfl) (heap_alloc_new _ _) (by simp) (by kernel_rfl) (by rfl) ?_; intro w5 hq1 hq2; have HU5 := hid hq1; have HF5 := hid hq2; clear hq1 hq2)
    have HBn5 : Hid (Below w3.heap.size w3 w5) := below_fr ((Below.refl _ _).alloc (Nat.le_refl _) _) HF5.out (Nat.le_refl _)
    replace HT2 : Hid (w5.heap[w.heap.size]? = some (.cells #[.int .i64 0, .int .i64 0, .string ⟨#[]⟩, .int .i64 0, .int .i64 0, .slice none 0 0, .int .i64 0, .bool false, .int .i64 0, .string ⟨#[]⟩] 28 (0, 0))) := (HBn5.out.block _ (blk_lt HT2.out)).trans HT2.out
    replace HB : Hid (Below w.heap.size w w5) := below_trans HB.out HBn5.out HB.out.size
    replace HV1 : Hid (BA w5 (.slice (some ⟨g,off,none⟩) n cap) b) := BA.below (B := 0) HV1.out HBn5.out
    replace HVO : Hid (VO w5 w1.heap.size (.slice pu nu cu) vs) := HVO.out.kept (fun i _ hi => HBn5.out.block i hi)
    have HT5 : Hid (w5.heap[w3.heap.size]? = some (.cells #[.int .i64 k, .string s, .int .i64 a, .int .i64 b', .slice pu nu cu, .int .i64 d, .bool c] 26 (0, 0))) := HU5.out
    clear HU5 HF5
    have x0 : w5.cell? ⟨w3.heap.size, 0, none⟩ = some (.int .i64 k) := by rw [cell_of_blk HT5.out]; rfl
    have x1 : w5.cell? ⟨w3.heap.size, 1, none⟩ = some (.string s) := by rw [cell_of_blk HT5.out]; rfl
    have x2 : w5.cell? ⟨w3.heap.size, 2, none⟩ = some (.int .i64 a) := by rw [cell_of_blk HT5.out]; rfl
    have x3 : w5.cell? ⟨w3.heap.size, 3, none⟩ = some (.int .i64 b') := by rw [cell_of_blk HT5.out]; rfl
    have x4 : w5.cell? ⟨w3.heap.size, 4, none⟩ = some (.slice pu nu cu) := by rw [cell_of_blk HT5.out]; rfl
    have x5 : w5.cell? ⟨w3.heap.size, 5, none⟩ = some (.int .i64 d) := by rw [cell_of_blk HT5.out]; rfl
    have x6 : w5.cell? ⟨w3.heap.size, 6, none⟩ = some (.bool c) := by rw [cell_of_blk HT5.out]; rfl
    go_wp2_with ((with_reducible show wpList _ _ _ (Oper.mk _ (.store 28 _ _) _ _ _ _ :: _) _ _); refine wp_st (by rfl) 28 _ _ (by rfl) w.heap.size 0 [.int .i64 0, .int .i64 0, .string ⟨#[]⟩, .int .i64 0, .int .i64 0, .slice none 0 0, .int .i64 0, .bool false, .int .i64 0, .string ⟨#[]⟩] 28 (.agg #[.int .i64 1, .int .i64 k, .string s, .int .i64 a, .int .i64 b', .slice pu nu cu, .int .i64 d, .bool c, .int .i64 0, .string ⟨#[]⟩]) [.int .i64 1, .int .i64 k, .string s, .int .i64 a, .int .i64 b', .slice pu nu cu, .int .i64 d, .bool c, .int .i64 0, .string ⟨#[]⟩] (by rfl) (by rfl) (by rfl) HT2.out (by simp) (by kernel_rfl) (by rfl) ?_; intro w6 hq1 hq2; have HU6 := hid hq1; have HF6 := hid hq2; clear hq1 hq2)
    refine ret_twoT w.heap.size [.int .i64 1, .int .i64 k, .string s, .int .i64 a, .int .i64 b', .slice pu nu cu, .int .i64 d, .bool c, .int .i64 0, .string ⟨#[]⟩] 28 _ HU6.out rfl rfl (by rfl) Try.underlying28 rfl (by kernel_rfl) ⟨.slice pu nu cu, ?_, (VO.fr HVO.out HF6.out HT2.out (by decide)).weak (by have := HLT.out; omega), below_fr HB.out HF6.out (by omega)⟩
    rw [← HZ.out]
    rfl
theorem tdec_any (b : List UInt8) (p : Option Addr) (n cap : Nat) (w : World) (hn : b.length = n) (hv : BA w (.slice p n cap) b) :
    Calls Try.prog 54 #[.slice p n cap] w fun e w' => ∃ u, e = .returned (.tuple #[acv (dcA b).1 u, .bool (dcA b).2]) ∧ VO w' w.heap.size u (dcA b).1.o.l ∧ Below w.heap.size w w' := by
  cases b with
  | nil => exact tdecD_any [] p n cap w hn hv (fun r (h : ([] : List UInt8) = 0 :: r) => by cases h)
  | cons c r =>
    by_cases hc : c = 0
    · subst hc
      obtain ⟨p', c', e, q1, q2, hx⟩ := id hv
      simp at e
      obtain ⟨rfl, -, rfl⟩ := e
      obtain ⟨g, off, hp, _⟩ := hx (by simp)
      subst hp
      simp at hn
      subst hn
      have e0 : dcA (0 :: r) = (⟨4, zop, 0, tx r⟩, decide (r.length ≤ 3000)) := by simp [dcA]
      rw [e0]
      refine (tdecS_any r g off r.length _ w rfl hv).mono ?_
      rintro e w2 ⟨rfl, hb⟩
      exact ⟨.slice none 0 0, rfl, VO.nil _ _, hb⟩
    · have e0 : dcA (c :: r) = (⟨1, (dcR (c :: r)).1, 0, ⟨#[]⟩⟩, decide ((dcR (c :: r)).2 = 0)) := by simp [dcA, hc]
      rw [e0]
      exact tdecD_any (c :: r) p n cap w hn hv (fun r' h => by cases h; exact hc rfl)
end Go.Proofs.Ytepgkemnpcadiaa
