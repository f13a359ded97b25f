/-
  The first bytes of a tape in new memory; Sync, Crash.
-/
import Derived.Test.YtepgkemnpcadiabTc
import Derived.Test.YtepgkemnpcadiabRf
import Derived.Deep.Cut
import Derived.Deep.CutBlock
namespace Go.Proofs.Ytepgkemnpcadiab
open Go.ChangeShapes Go.WideShapes Go.ChangeAt Go.RowKit Go.Maps
set_option linter.unusedVariables false
set_option linter.unusedSimpArgs false
set_option maxRecDepth 20000
theorem BO.frLt {w w' : World} {B b : Nat} {v : Value} {l : List UInt8} (h : BO w B v l) (hf : Fr (fun i => i = b) w w') (hb : b < B) : BO w' B v l := owns_same h fun i hi => hf.block i (own_block_some h hi).2 (by have := (own_block_some h hi).1; omega)
theorem BA.take {w : World} {p : Option Addr} {n cap : Nat} {l : List UInt8} (h : BA w (.slice p n cap) l) (k c : Nat) (hk : k ≤ l.length) (hc : k ≤ c) (hc2 : c ≤ cap) : BA w (.slice p k c) (l.take k) := by
  obtain ⟨p', cap', e, h1, h2, h3⟩ := h
  simp at e
  obtain ⟨rfl, rfl, rfl⟩ := e
  have hl : (l.take k).length = k := by rw [List.length_take]; omega
  refine ⟨p, c, by rw [hl], by omega, by omega, fun h0 => ?_⟩
  obtain ⟨g, off, hp, hx⟩ := h3 (by omega)
  refine ⟨g, off, hp, fun j hj => ?_⟩
  obtain ⟨q1, q2⟩ := hx j (by omega)
  exact ⟨q1, by rw [q2]; simp⟩
set_option maxHeartbeats 4000000 in
theorem first_any (l : List UInt8) (p : Option Addr) (cap : Nat) (s0 : Int) (k : Nat) (s : Int) (w : World) (hv : BA w (.slice p l.length cap) l) (hl : l.length ≤ 200000) (hk : k ≤ l.length) :
    Calls Try.prog 26 #[.agg #[.slice p l.length cap, .int .i64 s0], .int .i64 k, .int .i64 s] w fun e w' => ∃ v', e = .returned (.agg #[v', .int .i64 s]) ∧ BO w' w.heap.size v' (l.take k) ∧ Below w.heap.size w w' := by
  have HT := hid (hv.take k k hk (Nat.le_refl _) (by obtain ⟨p', cap', e, h1, _⟩ := hv; simp at e; omega))
  have hkc : (k : Int) ≤ (cap : Int) := by obtain ⟨p', cap', e, h1, _⟩ := hv; simp at e; omega
  have hmx : (cap : Int) ≤ 9223372036854775807 := by obtain ⟨p', cap', e, h1, h2, _⟩ := hv; simp at e; unfold maxLen at h2; omega
  have hk0 : (0 : Int) ≤ (k : Int) := by omega
  have HKL := hid hk
  have HL := hid hl
  obtain ⟨n, hn⟩ : ∃ n, l.length = n := ⟨_, rfl⟩
  rw [hn] at hv ⊢
  clear hn hl hk hv
  have HB2 := hid (bxs2 w [.slice p n cap, .int .i64 s0] [.slice none 0 0, .int .i64 0] 27 27)
  have HTL : Hid ((l.take k).length ≤ 140737488355328) := by
    have := HL.out
    show _ ≤ _
    rw [List.length_take]
    omega
  cases p
  all_goals
    go_enter Try.func26, Try.ntmps26
    go_upto_region 1 with fail
    generalize (w.alloc (.cells #[.slice _ n cap, .int .i64 s0] 27)).alloc (.cells #[.slice none 0 0, .int .i64 0] 27) = WB at HB2 ⊢
    have x0 := HB2.out.c 0 (by simp) 0
    have x1 := HB2.out.c 0 (by simp) 1
    simp at x0 x1
    have HBR := hid ((BA.below (B := 0) HT.out HB2.out.bel).br)
    have HR0 := hid (HB2.out.b 1 (by simp))
    have HB0 := hid HB2.out.bel
    go_wp2_with (first | (at_builtin; go_loud (refine wp_copyB (by rfl) _ _ (by rfl) WB _ (l.take k) (by rfl) (by rfl) HBR.out HTL.out ?_); intro v1 w1 hq1 hq2; have HO1 := hid hq1; have HB1 := hid hq2; obtain ⟨p1, n1, m1, hsh⟩ := hq1.shape3; subst hsh; clear hq1 hq2) | ((with_reducible show wpList _ _ _ (Oper.mk _ (.store 27 _ _) _ _ _ _ :: _) _ _); refine wp_st (by rfl) 27 _ _ (by rfl) (w.heap.size + 1) 0 [.slice none 0 0, .int .i64 0] 27 (.agg #[.slice p1 n1 m1, .int .i64 s]) [.slice p1 n1 m1, .int .i64 s] (by rfl) (by rfl) (by rfl) ((HB1.out.block _ (blk_lt HR0.out)).trans HR0.out) (by simp) (by kernel_rfl) (by rfl) ?_; intro w5 hq1 hq2; have HU5 := hid hq1; have HF5 := hid hq2; clear hq1 hq2))
    exact ret_loc (w.heap.size + 1) [.slice p1 n1 m1, .int .i64 s] 27 _ HU5.out rfl rfl (by rfl) Try.underlying27 rfl (by kernel_rfl) ⟨_, rfl, (HO1.out.frLt HF5.out (blk_lt HR0.out)).weak HB0.out.size, below_fr (below_trans HB0.out HB1.out HB0.out.size) HF5.out (by omega)⟩
theorem ret_twoT {P : Program} {fn : Func} {p q : Tmp} {ty : TypeId} {a : Act} {w : World} {Q : Ending → World → Prop} (R : Nat) (cs : List Value) (T : TypeId) (d : TypeDesc) (hb : w.heap[R]? = some (.cells cs.toArray T (0, 0))) (h : fn.results = #[.cell p ty, .tmp q]) (hd : a.defers = [])
    (hp : a.tmps.getD p undef = .pointer (some ⟨R, 0, none⟩)) (hu : P.underlying ty = some d) (hr : d.isRow = true) (hi : (P.info? ty).map (·.size) = some cs.length) (hq : Q (.returned (.tuple #[.agg cs.toArray, a.tmps.getD q undef])) w) : bodyPost P fn Q .ret a w := by
  refine bodyPost_ret ?_ hd hq
  have hp' : a.tmps[p]?.getD undef = .pointer (some ⟨R, 0, none⟩) := by simpa using hp
  simp [results, h, hp', asAddr, run_loadVar_mid w R 0 ty cs d (range_blk hb) hu hr hi]
/-- A tape, what is synced, and an error. -/
def tsy (l : List UInt8) (s : Int) : List UInt8 × Int × Int := if tmay l.length s = true then (l, l.length, 0) else ([], 0, 9)
def tcrN (l : List UInt8) (s k : Int) : Nat := (s + (if k ≤ l.length - s then k else l.length - s)).toNat
def tcr (l : List UInt8) (s k : Int) : List UInt8 × Int × Int := if tmay l.length s = true then (if k < 0 then ([], 0, 2) else (l.take (tcrN l s k), tcrN l s k, 0)) else ([], 0, 9)
theorem tmay_of {n : Nat} {s : Int} (h : tmay n s = true) : n ≤ 200000 ∧ 0 ≤ s ∧ s ≤ n := by
  unfold tmay at h
  simpa using h
set_option maxHeartbeats 8000000 in
theorem tcrash_any (l : List UInt8) (v : Value) (s k : Int) (w : World) (hv : BA w v l) (hk : wfI k) :
    Calls Try.prog 14 #[tpv v s, .int .i64 k] w fun e w' => ∃ v', e = .returned (.tuple #[tpv v' (tcr l s k).2.1, .int .i64 (tcr l s k).2.2]) ∧ BO w' w.heap.size v' (tcr l s k).1 ∧ Below w.heap.size w w' := by
  have HV := hid hv
  obtain ⟨p, cap, hsh, hcap, hmax, _⟩ := hv
  subst hsh
  obtain ⟨n, hn⟩ : ∃ n, l.length = n := ⟨_, rfl⟩
  have HM := hid (fun W => mayBe_any n p cap s W (by omega))
  have HN := hid hn
  unfold tcr tpv
  unfold tcrN
  rw [hn]
  obtain ⟨E, hE⟩ : ∃ E : Nat, (s + (if k ≤ (n : Int) - s then k else (n : Int) - s)).toNat = E := ⟨_, rfl⟩
  rw [hE]
  have HE := hid hE
  clear hE
  obtain ⟨m, hm⟩ : ∃ m, tmay n s = m := ⟨_, rfl⟩
  rw [hm] at HM ⊢
  have HMM := hid hm
  clear hm
  have hmx : (cap : Int) ≤ 9223372036854775807 := by unfold maxLen at hmax; omega
  have hcp : (n : Int) ≤ (cap : Int) := by omega
  clear hcap hmax hn
  have HB2 := hid (bxs2 w [.slice p n cap, .int .i64 s] [.slice none 0 0, .int .i64 0] 27 27)
  go_enter Try.func14, Try.ntmps14
  go_upto_region 1 with fail
  generalize (w.alloc (.cells #[.slice p n cap, .int .i64 s] 27)).alloc (.cells #[.slice none 0 0, .int .i64 0] 27) = WB at HB2 ⊢
  have HD0 : Hid (WB.heap[w.heap.size]? = some (.cells #[.slice p n cap, .int .i64 s] 27 (0, 0))) := HB2.out.b 0 (by simp)
  have HR0 : Hid (WB.heap[w.heap.size + 1]? = some (.cells #[.slice none 0 0, .int .i64 0] 27 (0, 0))) := HB2.out.b 1 (by simp)
  have x0 : WB.cell? ⟨w.heap.size, 0, none⟩ = some (.slice p n cap) := by rw [cell_of_blk HD0.out]; rfl
  have x1 : WB.cell? ⟨w.heap.size, 1, none⟩ = some (.int .i64 s) := by rw [cell_of_blk HD0.out]; rfl
  have HB0 := hid HB2.out.bel
  clear HB2
  go_wp2_with fail
  refine (HM.out _).mono ?_
  rintro e w2 ⟨rfl, hb⟩
  have HB1 := hid (below_trans HB0.out hb HB0.out.size)
  have HR1 : Hid (w2.heap[w.heap.size + 1]? = some (.cells #[.slice none 0 0, .int .i64 0] 27 (0, 0))) := (hb.block _ (blk_lt HR0.out)).trans HR0.out
  have HD1 : Hid (w2.heap[w.heap.size]? = some (.cells #[.slice p n cap, .int .i64 s] 27 (0, 0))) := (hb.block _ (blk_lt HD0.out)).trans HD0.out
  have y0 : w2.cell? ⟨w.heap.size, 0, none⟩ = some (.slice p n cap) := by rw [cell_of_blk HD1.out]; rfl
  have y1 : w2.cell? ⟨w.heap.size, 1, none⟩ = some (.int .i64 s) := by rw [cell_of_blk HD1.out]; rfl
  clear hb x0 x1 HR0 HD0
  cases m
  · go_wp2_with ((with_reducible show wpList _ _ _ (Oper.mk _ (.store 27 _ _) _ _ _ _ :: _) _ _); refine wp_st (by rfl) 27 _ _ (by rfl) (w.heap.size + 1) 0 [.slice none 0 0, .int .i64 0] 27 (.agg #[.slice none 0 0, .int .i64 0]) [.slice none 0 0, .int .i64 0] (by rfl) (by rfl) (by rfl) HR1.out (by simp) (by kernel_rfl) (by rfl) ?_; intro w5 hq1 hq2; have HU5 := hid hq1; have HF5 := hid hq2; clear hq1 hq2)
    refine ret_twoT (w.heap.size + 1) [.slice none 0 0, .int .i64 0] 27 _ HU5.out rfl rfl (by rfl) Try.underlying27 rfl (by kernel_rfl) ⟨.slice none 0 0, rfl, BO.nil _ _, below_fr HB1.out HF5.out (by omega)⟩
  · have HT := hid (tmay_of HMM.out)
    by_cases hk0 : k < 0
    · go_wp2_with ((with_reducible show wpList _ _ _ (Oper.mk _ (.store 27 _ _) _ _ _ _ :: _) _ _); refine wp_st (by rfl) 27 _ _ (by rfl) (w.heap.size + 1) 0 [.slice none 0 0, .int .i64 0] 27 (.agg #[.slice none 0 0, .int .i64 0]) [.slice none 0 0, .int .i64 0] (by rfl) (by rfl) (by rfl) HR1.out (by simp) (by kernel_rfl) (by rfl) ?_; intro w5 hq1 hq2; have HU5 := hid hq1; have HF5 := hid hq2; clear hq1 hq2)
      refine ret_twoT (w.heap.size + 1) [.slice none 0 0, .int .i64 0] 27 _ HU5.out rfl rfl (by rfl) Try.underlying27 rfl (by kernel_rfl) ⟨.slice none 0 0, rfl, BO.nil _ _, below_fr HB1.out HF5.out (by omega)⟩
    · have ht := HT.out
      have hEn : E ≤ n := by have := HE.out; split at this <;> omega
      have HFI := hid (first_any l p cap s E E w2 (BA.below (B := 0) HV.out HB1.out) (by have := HN.out; omega) (by have := HN.out; omega))
      rw [HN.out] at HFI
      have HEN := hid hEn
      clear hEn
      by_cases hkn : k ≤ (n : Int) - s
      · have e1 : s + k = (E : Int) := by have := HE.out; rw [if_pos hkn] at this; omega
        have E1 := hid e1
        clear e1
        go_wp2_with fail
        rw [E1.out]
        refine HFI.out.mono ?_
        rintro e w3 ⟨v', rfl, ho, hb⟩
        obtain ⟨p1, n1, m1, hsh⟩ := ho.shape3
        subst hsh
        have HO3 := hid ho
        have HB3 := hid (below_trans HB1.out hb HB1.out.size)
        have HR3 : Hid (w3.heap[w.heap.size + 1]? = some (.cells #[.slice none 0 0, .int .i64 0] 27 (0, 0))) := (hb.block _ (blk_lt HR1.out)).trans HR1.out
        clear ho hb
        go_wp2_with ((with_reducible show wpList _ _ _ (Oper.mk _ (.store 27 _ _) _ _ _ _ :: _) _ _); refine wp_st (by rfl) 27 _ _ (by rfl) (w.heap.size + 1) 0 [.slice none 0 0, .int .i64 0] 27 (.agg #[.slice p1 n1 m1, .int .i64 E]) [.slice p1 n1 m1, .int .i64 E] (by rfl) (by rfl) (by rfl) HR3.out (by simp) (by kernel_rfl) (by rfl) ?_; intro w5 hq1 hq2; have HU5 := hid hq1; have HF5 := hid hq2; clear hq1 hq2)
        refine ret_twoT (w.heap.size + 1) [.slice p1 n1 m1, .int .i64 E] 27 _ HU5.out rfl rfl (by rfl) Try.underlying27 rfl (by kernel_rfl) ⟨_, rfl, (HO3.out.frLt HF5.out (blk_lt HR1.out)).weak HB1.out.size, below_fr HB3.out HF5.out (by omega)⟩
      · have e1 : s + ((n : Int) - s) = (E : Int) := by have := HE.out; rw [if_neg hkn] at this; omega
        have E1 := hid e1
        clear e1
        go_wp2_with fail
        rw [E1.out]
        refine HFI.out.mono ?_
        rintro e w3 ⟨v', rfl, ho, hb⟩
        obtain ⟨p1, n1, m1, hsh⟩ := ho.shape3
        subst hsh
        have HO3 := hid ho
        have HB3 := hid (below_trans HB1.out hb HB1.out.size)
        have HR3 : Hid (w3.heap[w.heap.size + 1]? = some (.cells #[.slice none 0 0, .int .i64 0] 27 (0, 0))) := (hb.block _ (blk_lt HR1.out)).trans HR1.out
        clear ho hb
        go_wp2_with ((with_reducible show wpList _ _ _ (Oper.mk _ (.store 27 _ _) _ _ _ _ :: _) _ _); refine wp_st (by rfl) 27 _ _ (by rfl) (w.heap.size + 1) 0 [.slice none 0 0, .int .i64 0] 27 (.agg #[.slice p1 n1 m1, .int .i64 E]) [.slice p1 n1 m1, .int .i64 E] (by rfl) (by rfl) (by rfl) HR3.out (by simp) (by kernel_rfl) (by rfl) ?_; intro w5 hq1 hq2; have HU5 := hid hq1; have HF5 := hid hq2; clear hq1 hq2)
        refine ret_twoT (w.heap.size + 1) [.slice p1 n1 m1, .int .i64 E] 27 _ HU5.out rfl rfl (by rfl) Try.underlying27 rfl (by kernel_rfl) ⟨_, rfl, (HO3.out.frLt HF5.out (blk_lt HR1.out)).weak HB1.out.size, below_fr HB3.out HF5.out (by omega)⟩
end Go.Proofs.Ytepgkemnpcadiab
