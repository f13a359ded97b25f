/-
  The act at the beginning of bytes.
-/
import Derived.Test.YtepgkemnpcadiaaTl
namespace Go.Proofs.Ytepgkemnpcadiaa
open Go.ChangeShapes Go.WideShapes Go.ChangeAt Go.RowKit Go.Maps
set_option linter.unusedVariables false
set_option linter.unusedSimpArgs false
set_option maxRecDepth 20000
def whA : List UInt8 → Ac × Nat × Bool
  | x :: y :: r => if r.length < 256 * x.toNat + y.toNat then (zac, 0, false) else ((dcA (r.take (256 * x.toNat + y.toNat))).1, 256 * x.toNat + y.toNat + 2, (dcA (r.take (256 * x.toNat + y.toNat))).2)
  | _ => (zac, 0, false)
theorem ret3 {P : Program} {fn : Func} {p q r : Tmp} {ty : TypeId} {a : Act} {w : World} {Q : Ending → World → Prop} (R : Nat) (cs : List Value) (T : TypeId) (d : TypeDesc) (hb : w.heap[R]? = some (.cells cs.toArray T (0, 0))) (h : fn.results = #[.cell p ty, .tmp q, .tmp r]) (hd : a.defers = [])
    (hp : a.tmps.getD p undef = .pointer (some ⟨R, 0, none⟩)) (hu : P.underlying ty = some d) (hr : d.isRow = true) (hi : (P.info? ty).map (·.size) = some cs.length) (hq : Q (.returned (.tuple #[.agg cs.toArray, a.tmps.getD q undef, a.tmps.getD r undef])) w) : bodyPost P fn Q .ret a w := by
  refine bodyPost_ret ?_ hd hq
  have hp' : a.tmps[p]?.getD undef = .pointer (some ⟨R, 0, none⟩) := by simpa using hp
  simp [results, h, hp', asAddr, run_loadVar_mid w R 0 ty cs d (range_blk hb) hu hr hi]
set_option maxHeartbeats 16000000 in
theorem twh0_any (l : List UInt8) (p : Option Addr) (n cap : Nat) (w : World) (hn : l.length = n) (h2 : n < 2) :
    Calls Try.prog 37 #[.slice p n cap] w fun e w' => e = .returned (.tuple #[acv zac (.slice none 0 0), .int .i64 0, .bool false]) ∧ Below w.heap.size w w' := by
  have hi : (n : Int) < 2 := by omega
  unfold acv zac zop
  clear hn h2
  go_enter Try.func37, Try.ntmps37
  go_wp2_with ((with_reducible show wpList _ _ _ (Oper.mk _ (.store 28 _ _) _ _ _ _ :: _) _ _); refine wp_st (by rfl) 28 _ _ (by rfl) w.heap.size 0 [.int .i64 0, .int .i64 0, .string ⟨#[]⟩, .int .i64 0, .int .i64 0, .slice none 0 0, .int .i64 0, .bool false, .int .i64 0, .string ⟨#[]⟩] 28 (.agg #[.int .i64 0, .int .i64 0, .string ⟨#[]⟩, .int .i64 0, .int .i64 0, .slice none 0 0, .int .i64 0, .bool false, .int .i64 0, .string ⟨#[]⟩]) [.int .i64 0, .int .i64 0, .string ⟨#[]⟩, .int .i64 0, .int .i64 0, .slice none 0 0, .int .i64 0, .bool false, .int .i64 0, .string ⟨#[]⟩] (by rfl) (by rfl) (by rfl) (heap_alloc_new _ _) (by simp) (by kernel_rfl) (by rfl) ?_; intro w6 hq1 hq2; have HU6 := hid hq1; have HF6 := hid hq2; clear hq1 hq2)
  exact ret3 w.heap.size [.int .i64 0, .int .i64 0, .string ⟨#[]⟩, .int .i64 0, .int .i64 0, .slice none 0 0, .int .i64 0, .bool false, .int .i64 0, .string ⟨#[]⟩] 28 _ HU6.out rfl rfl (by rfl) Try.underlying28 rfl (by kernel_rfl) ⟨rfl, below_fr ((Below.refl _ _).alloc (Nat.le_refl _) _) HF6.out (Nat.le_refl _)⟩
set_option maxHeartbeats 16000000 in
theorem twh2_any (x y : UInt8) (r : List UInt8) (g off m cap : Nat) (w : World) (hn : r.length = m) (hv : BA w (.slice (some ⟨g, off, none⟩) (m + 2) cap) (x :: y :: r)) :
    Calls Try.prog 37 #[.slice (some ⟨g, off, none⟩) (m + 2) cap] w fun e w' => ∃ u, e = .returned (.tuple #[acv (whA (x :: y :: r)).1 u, .int .i64 (whA (x :: y :: r)).2.1, .bool (whA (x :: y :: r)).2.2]) ∧ VO w' w.heap.size u (whA (x :: y :: r)).1.o.l ∧ Below w.heap.size w w' := by
  have HN := hid hn
  have HXX := hid (And.intro (UInt8.toNat_lt x) (UInt8.toNat_lt y))
  obtain ⟨p', c', e, hc1, hc2, hx⟩ := hv
  simp at e
  obtain ⟨rfl, -, rfl⟩ := e
  obtain ⟨g', off', hp, hxx⟩ := hx (by simp)
  cases hp
  have b0 : w.cell? ⟨g, off, none⟩ = some (.int .u8 (x.toNat : Int)) := by have := (hxx 0 (by simp)).2; simpa using this
  have b1 : w.cell? ⟨g, off + 1, none⟩ = some (.int .u8 (y.toNat : Int)) := by have := (hxx 1 (by simp)).2; simpa using this
  have hgs : g < w.heap.size := (hxx 0 (by simp)).1
  have hcap : (m : Int) + 2 ≤ (cap : Int) := by simp at hc1; omega
  have hcm : (cap : Int) ≤ 9223372036854775807 := by unfold maxLen at hc2; omega
  have HSUB : Hid (∀ k, k ≤ m → 0 < k → BA w (.slice (some ⟨g, off + 2, none⟩) k k) (r.take k)) := fun k hk hk0 => by
    have hl : (r.take k).length = k := by rw [List.length_take]; omega
    refine ⟨_, k, by rw [hl], by omega, by omega, fun _ => ⟨g, off + 2, rfl, fun j hj => ?_⟩⟩
    have := hxx (j + 2) (by simp; omega)
    refine ⟨this.1, ?_⟩
    rw [show off + 2 + j = off + (j + 2) by omega, this.2]
    simp
  obtain ⟨xn, hxn⟩ : ∃ xn, x.toNat = xn := ⟨_, rfl⟩
  obtain ⟨yn, hyn⟩ : ∃ yn, y.toNat = yn := ⟨_, rfl⟩
  have hW : whA (x :: y :: r) = if m < 256 * xn + yn then (zac, 0, false) else ((dcA (r.take (256 * xn + yn))).1, 256 * xn + yn + 2, (dcA (r.take (256 * xn + yn))).2) := by rw [← hn, ← hxn, ← hyn]; rfl
  rw [hxn] at b0 HXX
  rw [hyn] at b1 HXX
  rw [hW]
  have hx0 : (xn : Int) < 256 := by have := HXX.out; simp at this; omega
  have hy0 : (yn : Int) < 256 := by have := HXX.out; simp at this; omega
  obtain ⟨K, hK⟩ : ∃ K, 256 * xn + yn = K := ⟨_, rfl⟩
  rw [hK]
  have HK := hid hK
  clear hc1 hc2 hx hxx hxn hyn hW hn hK
  have HB0 : ∀ o, Below w.heap.size w (w.alloc o) := fun o => (Below.refl _ _).alloc (Nat.le_refl _) _
  have HSU2 : Hid (∀ o k, k ≤ m → 0 < k → BA (w.alloc o) (.slice (some ⟨g, off + 2, none⟩) k k) (r.take k)) := fun o k h1 h2 => BA.below (B := 0) (HSUB.out k h1 h2) (HB0 o)
  have c0 : ∀ o, (w.alloc o).cell? ⟨g, off, none⟩ = some (.int .u8 (xn : Int)) := fun o => (World.cell?_alloc_past _ _ _ hgs).trans b0
  have c1 : ∀ o, (w.alloc o).cell? ⟨g, off + 1, none⟩ = some (.int .u8 (yn : Int)) := fun o => (World.cell?_alloc_past _ _ _ hgs).trans b1
  go_enter Try.func37, Try.ntmps37
  go_upto_region 3 with fail
  generalize hw1 : w.alloc (.cells #[.int .i64 0, .int .i64 0, .string ⟨#[]⟩, .int .i64 0, .int .i64 0, .slice none 0 0, .int .i64 0, .bool false, .int .i64 0, .string ⟨#[]⟩] 28) = w1
  have HT2 : Hid (w1.heap[w.heap.size]? = some (.cells #[.int .i64 0, .int .i64 0, .string ⟨#[]⟩, .int .i64 0, .int .i64 0, .slice none 0 0, .int .i64 0, .bool false, .int .i64 0, .string ⟨#[]⟩] 28 (0, 0))) := by rw [← hw1]; exact heap_alloc_new _ _
  have HB : Hid (Below w.heap.size w w1) := by rw [← hw1]; exact HB0 _
  have d0 : w1.cell? ⟨g, off, none⟩ = some (.int .u8 (xn : Int)) := by rw [← hw1]; exact c0 _
  have d1 : w1.cell? ⟨g, off + 1, none⟩ = some (.int .u8 (yn : Int)) := by rw [← hw1]; exact c1 _
  have HSU3 : Hid (∀ k, k ≤ m → 0 < k → BA w1 (.slice (some ⟨g, off + 2, none⟩) k k) (r.take k)) := by rw [← hw1]; exact HSU2.out _
  have HLT : Hid (w.heap.size < w1.heap.size) := blk_lt HT2.out
  clear hw1 HB0 b0 b1 c0 c1 HSU2 HSUB
  go_quiet (fail)
  rw [show (2 + (xn : Int) * 256 + (yn : Int)) = ((K + 2 : Nat) : Int) by have := HK.out; omega]
  have HBq : Hid (Below w1.heap.size w1 (w1.drewN nq)) := ((Fr.refl (fun _ => False) w1).drewN nq).below
  generalize w1.drewN nq = w2 at HBq ⊢
  clear d0 d1
  replace HT2 : Hid (w2.heap[w.heap.size]? = some (.cells #[.int .i64 0, .int .i64 0, .string ⟨#[]⟩, .int .i64 0, .int .i64 0, .slice none 0 0, .int .i64 0, .bool false, .int .i64 0, .string ⟨#[]⟩] 28 (0, 0))) := (HBq.out.block _ (blk_lt HT2.out)).trans HT2.out
  replace HB : Hid (Below w.heap.size w w2) := below_trans HB.out HBq.out HB.out.size
  replace HSU3 : Hid (∀ k, k ≤ m → 0 < k → BA w2 (.slice (some ⟨g, off + 2, none⟩) k k) (r.take k)) := fun k h1 h2 => BA.below (B := 0) (HSU3.out k h1 h2) HBq.out
  by_cases hmk : m < K
  · have hi : (m : Int) + 2 < ((K + 2 : Nat) : Int) := by omega
    go_wp2_with ((with_reducible show wpList _ _ _ (Oper.mk _ (.store 28 _ _) _ _ _ _ :: _) _ _); refine wp_st (by rfl) 28 _ _ (by rfl) w.heap.size 0 [.int .i64 0, .int .i64 0, .string ⟨#[]⟩, .int .i64 0, .int .i64 0, .slice none 0 0, .int .i64 0, .bool false, .int .i64 0, .string ⟨#[]⟩] 28 (.agg #[.int .i64 0, .int .i64 0, .string ⟨#[]⟩, .int .i64 0, .int .i64 0, .slice none 0 0, .int .i64 0, .bool false, .int .i64 0, .string ⟨#[]⟩]) [.int .i64 0, .int .i64 0, .string ⟨#[]⟩, .int .i64 0, .int .i64 0, .slice none 0 0, .int .i64 0, .bool false, .int .i64 0, .string ⟨#[]⟩] (by rfl) (by rfl) (by rfl) HT2.out (by simp) (by kernel_rfl) (by rfl) ?_; intro w6 hq1 hq2; have HU6 := hid hq1; have HF6 := hid hq2; clear hq1 hq2)
    unfold acv zac zop
    exact ret3 w.heap.size [.int .i64 0, .int .i64 0, .string ⟨#[]⟩, .int .i64 0, .int .i64 0, .slice none 0 0, .int .i64 0, .bool false, .int .i64 0, .string ⟨#[]⟩] 28 _ HU6.out rfl rfl (by rfl) Try.underlying28 rfl (by kernel_rfl) ⟨.slice none 0 0, rfl, VO.nil _ _, below_fr HB.out HF6.out (by omega)⟩
  · have hi : ¬ (m : Int) + 2 < ((K + 2 : Nat) : Int) := by omega
    have hmk' : K ≤ m := by omega
    have hkc : ((K + 2 : Nat) : Int) ≤ (cap : Int) := by omega
    have HMK := hid hmk'
    clear hmk'
    by_cases hk0 : K = 0
    · have HK0 := hid hk0
      have HB00 : Hid (BA w2 (.slice (some ⟨g, off, none⟩) 0 0) []) := ⟨_, 0, rfl, by simp, Nat.zero_le _, fun h => absurd h (by simp)⟩
      subst hk0
      have HDC := hid (tdec_any [] (some ⟨g, off, none⟩) 0 0 w2 rfl HB00.out)
      obtain ⟨⟨⟨ak, ⟨k, s, a, b', vs, d, c⟩, aq, ay⟩, bz⟩, hd⟩ : ∃ x, dcA [] = x := ⟨_, rfl⟩
      rw [hd] at HDC
      have HD := hid hd
      clear hd
      unfold acv at HDC
      simp only at HDC
      go_wp2_with fail
      refine (HDC.out).mono ?_
      rintro e w3 ⟨u, rfl, ho, hb⟩
      obtain ⟨pu, nu, cu, hsh⟩ := ho.shape3
      subst hsh
      have HO3 := hid ho
      have HBh3 := hid hb
      have HS2 : Hid (w1.heap.size ≤ w2.heap.size) := HBq.out.size
      clear ho hb
      replace HT2 : Hid (w3.heap[w.heap.size]? = some (.cells #[.int .i64 0, .int .i64 0, .string ⟨#[]⟩, .int .i64 0, .int .i64 0, .slice none 0 0, .int .i64 0, .bool false, .int .i64 0, .string ⟨#[]⟩] 28 (0, 0))) := (HBh3.out.block _ (blk_lt HT2.out)).trans HT2.out
      replace HB : Hid (Below w.heap.size w w3) := below_trans HB.out HBh3.out HB.out.size
      replace HSU3 : Hid (∀ k, k ≤ m → 0 < k → BA w3 (.slice (some ⟨g, off + 2, none⟩) k k) (r.take k)) := fun k h1 h2 => BA.below (B := 0) (HSU3.out k h1 h2) HBh3.out
      have HVO : Hid (VO w3 w2.heap.size (.slice pu nu cu) vs) := HO3.out
      go_upto_region 7 with ((with_reducible show wpList _ _ _ (Oper.mk _ (.store 28 _ _) _ _ _ _ :: _) _ _); refine wp_st (by rfl) 28 _ _ (by rfl) w3.heap.size 0 [.int .i64 0, .int .i64 0, .string ⟨#[]⟩, .int .i64 0, .int .i64 0, .slice none 0 0, .int .i64 0, .bool false, .int .i64 0, .string ⟨#[]⟩] 28 (.agg #[.int .i64 ak, .int .i64 k, .string s, .int .i64 a, .int .i64 b', .slice pu nu cu, .int .i64 d, .bool c, .int .i64 aq, .string ay]) [.int .i64 ak, .int .i64 k, .string s, .int .i64 a, .int .i64 b', .slice pu nu cu, .int .i64 d, .bool c, .int .i64 aq, .string ay] (by rfl) (by rfl) (by rfl) (heap_alloc_new _ _) (by simp) (by kernel_rfl) (by rfl) ?_; intro w5 hq1 hq2; have HU5 := hid hq1; have HF5 := hid hq2; clear hq1 hq2)
      have HBn5 : Hid (Below w3.heap.size w3 w5) := below_fr ((Below.refl _ _).alloc (Nat.le_refl _) _) HF5.out (Nat.le_refl _)
      replace HT2 : Hid (w5.heap[w.heap.size]? = some (.cells #[.int .i64 0, .int .i64 0, .string ⟨#[]⟩, .int .i64 0, .int .i64 0, .slice none 0 0, .int .i64 0, .bool false, .int .i64 0, .string ⟨#[]⟩] 28 (0, 0))) := (HBn5.out.block _ (blk_lt HT2.out)).trans HT2.out
      replace HB : Hid (Below w.heap.size w w5) := below_trans HB.out HBn5.out HB.out.size
      replace HSU3 : Hid (∀ k, k ≤ m → 0 < k → BA w5 (.slice (some ⟨g, off + 2, none⟩) k k) (r.take k)) := fun k h1 h2 => BA.below (B := 0) (HSU3.out k h1 h2) HBn5.out
      replace HVO : Hid (VO w5 w2.heap.size (.slice pu nu cu) vs) := HVO.out.kept (fun i _ hi => HBn5.out.block i hi)
      have HT6 : Hid (w5.heap[w3.heap.size]? = some (.cells #[.int .i64 ak, .int .i64 k, .string s, .int .i64 a, .int .i64 b', .slice pu nu cu, .int .i64 d, .bool c, .int .i64 aq, .string ay] 28 (0, 0))) := HU5.out
      clear HU5 HF5
      have x0 : w5.cell? ⟨w3.heap.size, 0, none⟩ = some (.int .i64 ak) := by rw [cell_of_blk HT6.out]; rfl
      have x1 : w5.cell? ⟨w3.heap.size, 1, none⟩ = some (.int .i64 k) := by rw [cell_of_blk HT6.out]; rfl
      have x2 : w5.cell? ⟨w3.heap.size, 2, none⟩ = some (.string s) := by rw [cell_of_blk HT6.out]; rfl
      have x3 : w5.cell? ⟨w3.heap.size, 3, none⟩ = some (.int .i64 a) := by rw [cell_of_blk HT6.out]; rfl
      have x4 : w5.cell? ⟨w3.heap.size, 4, none⟩ = some (.int .i64 b') := by rw [cell_of_blk HT6.out]; rfl
      have x5 : w5.cell? ⟨w3.heap.size, 5, none⟩ = some (.slice pu nu cu) := by rw [cell_of_blk HT6.out]; rfl
      have x6 : w5.cell? ⟨w3.heap.size, 6, none⟩ = some (.int .i64 d) := by rw [cell_of_blk HT6.out]; rfl
      have x7 : w5.cell? ⟨w3.heap.size, 7, none⟩ = some (.bool c) := by rw [cell_of_blk HT6.out]; rfl
      have x8 : w5.cell? ⟨w3.heap.size, 8, none⟩ = some (.int .i64 aq) := by rw [cell_of_blk HT6.out]; rfl
      have x9 : w5.cell? ⟨w3.heap.size, 9, none⟩ = some (.string ay) := by rw [cell_of_blk HT6.out]; rfl
      go_wp2_with ((with_reducible show wpList _ _ _ (Oper.mk _ (.store 28 _ _) _ _ _ _ :: _) _ _); refine wp_st (by rfl) 28 _ _ (by rfl) w.heap.size 0 [.int .i64 0, .int .i64 0, .string ⟨#[]⟩, .int .i64 0, .int .i64 0, .slice none 0 0, .int .i64 0, .bool false, .int .i64 0, .string ⟨#[]⟩] 28 (.agg #[.int .i64 ak, .int .i64 k, .string s, .int .i64 a, .int .i64 b', .slice pu nu cu, .int .i64 d, .bool c, .int .i64 aq, .string ay]) [.int .i64 ak, .int .i64 k, .string s, .int .i64 a, .int .i64 b', .slice pu nu cu, .int .i64 d, .bool c, .int .i64 aq, .string ay] (by rfl) (by rfl) (by rfl) HT2.out (by simp) (by kernel_rfl) (by rfl) ?_; intro w7 hq1 hq2; have HU7 := hid hq1; have HF7 := hid hq2; clear hq1 hq2)
      refine ret3 w.heap.size [.int .i64 ak, .int .i64 k, .string s, .int .i64 a, .int .i64 b', .slice pu nu cu, .int .i64 d, .bool c, .int .i64 aq, .string ay] 28 _ HU7.out rfl rfl (by rfl) Try.underlying28 rfl (by kernel_rfl) ⟨.slice pu nu cu, ?_, ?_, below_fr HB.out HF7.out (by omega)⟩
      · rw [HD.out]; rfl
      · rw [HD.out]; exact (VO.fr HVO.out HF7.out HT2.out (by decide)).weak (by have := HLT.out; have := HS2.out; omega)
    · have HKP := hid hk0
      have HDC := hid (tdec_any (r.take K) (some ⟨g, off + 2, none⟩) K K w2 (by rw [List.length_take]; have := HMK.out; have := HN.out; omega) (HSU3.out K HMK.out (by have := HKP.out; omega)))
      obtain ⟨⟨⟨ak, ⟨k, s, a, b', vs, d, c⟩, aq, ay⟩, bz⟩, hd⟩ : ∃ x, dcA (r.take K) = x := ⟨_, rfl⟩
      rw [hd] at HDC
      have HD := hid hd
      clear hd
      unfold acv at HDC
      simp only at HDC
      go_wp2_with fail
      refine (HDC.out).mono ?_
      rintro e w3 ⟨u, rfl, ho, hb⟩
      obtain ⟨pu, nu, cu, hsh⟩ := ho.shape3
      subst hsh
      have HO3 := hid ho
      have HBh3 := hid hb
      have HS2 : Hid (w1.heap.size ≤ w2.heap.size) := HBq.out.size
      clear ho hb
      replace HT2 : Hid (w3.heap[w.heap.size]? = some (.cells #[.int .i64 0, .int .i64 0, .string ⟨#[]⟩, .int .i64 0, .int .i64 0, .slice none 0 0, .int .i64 0, .bool false, .int .i64 0, .string ⟨#[]⟩] 28 (0, 0))) := (HBh3.out.block _ (blk_lt HT2.out)).trans HT2.out
      replace HB : Hid (Below w.heap.size w w3) := below_trans HB.out HBh3.out HB.out.size
      replace HSU3 : Hid (∀ k, k ≤ m → 0 < k → BA w3 (.slice (some ⟨g, off + 2, none⟩) k k) (r.take k)) := fun k h1 h2 => BA.below (B := 0) (HSU3.out k h1 h2) HBh3.out
      have HVO : Hid (VO w3 w2.heap.size (.slice pu nu cu) vs) := HO3.out
      go_upto_region 7 with ((with_reducible show wpList _ _ _ (Oper.mk _ (.store 28 _ _) _ _ _ _ :: _) _ _); refine wp_st (by rfl) 28 _ _ (by rfl) w3.heap.size 0 [.int .i64 0, .int .i64 0, .string ⟨#[]⟩, .int .i64 0, .int .i64 0, .slice none 0 0, .int .i64 0, .bool false, .int .i64 0, .string ⟨#[]⟩] 28 (.agg #[.int .i64 ak, .int .i64 k, .string s, .int .i64 a, .int .i64 b', .slice pu nu cu, .int .i64 d, .bool c, .int .i64 aq, .string ay]) [.int .i64 ak, .int .i64 k, .string s, .int .i64 a, .int .i64 b', .slice pu nu cu, .int .i64 d, .bool c, .int .i64 aq, .string ay] (by rfl) (by rfl) (by rfl) (heap_alloc_new _ _) (by simp) (by kernel_rfl) (by rfl) ?_; intro w5 hq1 hq2; have HU5 := hid hq1; have HF5 := hid hq2; clear hq1 hq2)
      have HBn5 : Hid (Below w3.heap.size w3 w5) := below_fr ((Below.refl _ _).alloc (Nat.le_refl _) _) HF5.out (Nat.le_refl _)
      replace HT2 : Hid (w5.heap[w.heap.size]? = some (.cells #[.int .i64 0, .int .i64 0, .string ⟨#[]⟩, .int .i64 0, .int .i64 0, .slice none 0 0, .int .i64 0, .bool false, .int .i64 0, .string ⟨#[]⟩] 28 (0, 0))) := (HBn5.out.block _ (blk_lt HT2.out)).trans HT2.out
      replace HB : Hid (Below w.heap.size w w5) := below_trans HB.out HBn5.out HB.out.size
      replace HSU3 : Hid (∀ k, k ≤ m → 0 < k → BA w5 (.slice (some ⟨g, off + 2, none⟩) k k) (r.take k)) := fun k h1 h2 => BA.below (B := 0) (HSU3.out k h1 h2) HBn5.out
      replace HVO : Hid (VO w5 w2.heap.size (.slice pu nu cu) vs) := HVO.out.kept (fun i _ hi => HBn5.out.block i hi)
      have HT6 : Hid (w5.heap[w3.heap.size]? = some (.cells #[.int .i64 ak, .int .i64 k, .string s, .int .i64 a, .int .i64 b', .slice pu nu cu, .int .i64 d, .bool c, .int .i64 aq, .string ay] 28 (0, 0))) := HU5.out
      clear HU5 HF5
      have x0 : w5.cell? ⟨w3.heap.size, 0, none⟩ = some (.int .i64 ak) := by rw [cell_of_blk HT6.out]; rfl
      have x1 : w5.cell? ⟨w3.heap.size, 1, none⟩ = some (.int .i64 k) := by rw [cell_of_blk HT6.out]; rfl
      have x2 : w5.cell? ⟨w3.heap.size, 2, none⟩ = some (.string s) := by rw [cell_of_blk HT6.out]; rfl
      have x3 : w5.cell? ⟨w3.heap.size, 3, none⟩ = some (.int .i64 a) := by rw [cell_of_blk HT6.out]; rfl
      have x4 : w5.cell? ⟨w3.heap.size, 4, none⟩ = some (.int .i64 b') := by rw [cell_of_blk HT6.out]; rfl
      have x5 : w5.cell? ⟨w3.heap.size, 5, none⟩ = some (.slice pu nu cu) := by rw [cell_of_blk HT6.out]; rfl
      have x6 : w5.cell? ⟨w3.heap.size, 6, none⟩ = some (.int .i64 d) := by rw [cell_of_blk HT6.out]; rfl
      have x7 : w5.cell? ⟨w3.heap.size, 7, none⟩ = some (.bool c) := by rw [cell_of_blk HT6.out]; rfl
      have x8 : w5.cell? ⟨w3.heap.size, 8, none⟩ = some (.int .i64 aq) := by rw [cell_of_blk HT6.out]; rfl
      have x9 : w5.cell? ⟨w3.heap.size, 9, none⟩ = some (.string ay) := by rw [cell_of_blk HT6.out]; rfl
      go_wp2_with ((with_reducible show wpList _ _ _ (Oper.mk _ (.store 28 _ _) _ _ _ _ :: _) _ _); refine wp_st (by rfl) 28 _ _ (by rfl) w.heap.size 0 [.int .i64 0, .int .i64 0, .string ⟨#[]⟩, .int .i64 0, .int .i64 0, .slice none 0 0, .int .i64 0, .bool false, .int .i64 0, .string ⟨#[]⟩] 28 (.agg #[.int .i64 ak, .int .i64 k, .string s, .int .i64 a, .int .i64 b', .slice pu nu cu, .int .i64 d, .bool c, .int .i64 aq, .string ay]) [.int .i64 ak, .int .i64 k, .string s, .int .i64 a, .int .i64 b', .slice pu nu cu, .int .i64 d, .bool c, .int .i64 aq, .string ay] (by rfl) (by rfl) (by rfl) HT2.out (by simp) (by kernel_rfl) (by rfl) ?_; intro w7 hq1 hq2; have HU7 := hid hq1; have HF7 := hid hq2; clear hq1 hq2)
      refine ret3 w.heap.size [.int .i64 ak, .int .i64 k, .string s, .int .i64 a, .int .i64 b', .slice pu nu cu, .int .i64 d, .bool c, .int .i64 aq, .string ay] 28 _ HU7.out rfl rfl (by rfl) Try.underlying28 rfl (by kernel_rfl) ⟨.slice pu nu cu, ?_, ?_, below_fr HB.out HF7.out (by omega)⟩
      · rw [HD.out]; rfl
      · rw [HD.out]; exact (VO.fr HVO.out HF7.out HT2.out (by decide)).weak (by have := HLT.out; have := HS2.out; omega)
end Go.Proofs.Ytepgkemnpcadiaa
