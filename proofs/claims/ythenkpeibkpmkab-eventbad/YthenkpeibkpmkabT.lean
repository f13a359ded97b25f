/-
  The walk of NameSize.
-/
import Derived.Test.YthenkpeibkpmkabP
import Derived.Laws.IdiomStrings
namespace Go.Proofs.Ythenkpeibkpmkab
open Go.ChangeShapes Go.WideShapes Go.ChangeAt Go.RowKit Go.Maps
set_option linter.unusedVariables false
set_option linter.unusedSimpArgs false
def pk (n m : Int) : Int := if 0 ≤ n then n % m else -((n + 1).tmod m)
theorem pk_bd (n m : Int) (hm : 0 < m) : 0 ≤ pk n m ∧ pk n m < m := by
  unfold pk
  split
  · exact ⟨Int.emod_nonneg n (by omega), Int.emod_lt_of_pos n hm⟩
  · have h2 := Int.tmod_lt_of_pos (-(n + 1)) hm
    have h1 := Int.tmod_nonneg m (by omega : 0 ≤ -(n + 1))
    rw [Int.neg_tmod] at h1 h2
    omega
theorem picked_any (n m : Int) (w : World) (hn1 : -9223372036854775808 ≤ n) (hn2 : n ≤ 9223372036854775807) (hm : 0 < m) (hm2 : m ≤ 1099511627776) :
    Calls Try.prog 13 #[.int .i64 n, .int .i64 m] w fun e w' => e = .returned (.int .i64 (pk n m)) ∧ w' = w := by
  have hm0 : ¬ m = 0 := by omega
  unfold pk
  by_cases h : 0 ≤ n
  · simp only [h, if_true]
    go_enter Try.func13, Try.ntmps13
    go_wp2
    go_ret
    exact ⟨rfl, rfl⟩
  · have h' : n < 0 := by omega
    simp only [h, if_false]
    go_enter Try.func13, Try.ntmps13
    go_wp2
    go_ret
    exact ⟨rfl, rfl⟩
theorem picked_const (n M : Int) (m : Nat) (hM : M = m) (hn : wfI n) (hm : 0 < m) (hm2 : m ≤ 1099511627776) : ∃ x : Nat, x < m ∧ ∀ W, Calls Try.prog 13 #[.int .i64 n, .int .i64 M] W fun e w' => e = .returned (.int .i64 x) ∧ w' = W := by
  subst hM
  have hb := pk_bd n m (by omega)
  obtain ⟨k, hk⟩ := Int.eq_ofNat_of_zero_le hb.1
  refine ⟨k, by omega, fun W => ?_⟩
  have := picked_any n m W hn.1 hn.2 (by omega) (by omega)
  rw [hk] at this
  exact this
theorem byte_of {n : Int} (h : (Lit.int .u8 n).wf = true) : ∃ c : UInt8, n = (c.toNat : Int) := by
  have hb : 0 ≤ n ∧ n ≤ 255 := by simpa [Lit.wf, IntKind.min, IntKind.max, IntKind.signed, IntKind.bits] using h
  refine ⟨UInt8.ofNat n.toNat, ?_⟩
  have : (UInt8.ofNat n.toNat).toNat = n.toNat := by
    rw [UInt8.toNat_ofNat']
    omega
  omega
theorem infoB : (Try.prog.info? 5).map (fun i => (i.zero, i.size, i.bytes)) = some (some (.int .u8 0), 1, 1) := by kernel_rfl
theorem conv_bytes (w : World) (a : Addr) (cap : Nat) (l : List UInt8) (hc : ∀ j (hj : j < l.length), w.cell? (a.add j) = some (.int .u8 (l[j].toNat : Int))) :
    (convert 38 9 (.slice (some a) l.length cap)).run Try.prog w = .ok (.string ⟨l.toArray⟩) w :=
  run_convert_bytes_back w 38 9 5 a cap l Try.underlying38 Try.underlying5 Try.underlying9 hc
theorem conv_own {w : World} {base : Nat} {v : Value} {k : Nat} (h : w.ownsRow base 5 1 v k (List.replicate k (.int .u8 97))) :
    (convert 38 9 v).run Try.prog w = .ok (.string ⟨(List.replicate k (97 : UInt8)).toArray⟩) w := by
  rcases h.2 with ⟨rfl, rfl⟩ | ⟨g, cap, cur, rfl, _, h2, _⟩
  · rw [run_convert_bytes_string w 38 9 5 none 0 0 Try.underlying38 Try.underlying5 Try.underlying9]
    simp [Conv.bytesToString]
    rfl
  · have e := conv_bytes w ⟨g, 0, none⟩ cap (List.replicate k 97) (fun j hj => by
      have hj' : j < k := by simpa using hj
      rw [Addr.add_mid, Nat.zero_add, h.cellAt _ (by omega)]
      simp [hj'])
    simpa using e
theorem conv_one (b : UInt8) (W : World) : (convert 38 9 (.slice (some ⟨W.heap.size, 0, none⟩) 1 1)).run Try.prog (W.alloc (.cells #[.int .u8 (b.toNat : Int)] 5)) = .ok (.string ⟨#[b]⟩) (W.alloc (.cells #[.int .u8 (b.toNat : Int)] 5)) :=
  conv_bytes _ ⟨W.heap.size, 0, none⟩ 1 [b] (fun j hj => by
    obtain rfl : j = 0 := by simpa using hj
    rw [Addr.add_mid]
    exact cell_new rfl rfl)
theorem conv_two (b : UInt8) (W : World) : (convert 38 9 (.slice (some ⟨W.heap.size, 0, none⟩) 2 2)).run Try.prog (W.alloc (.cells #[.int .u8 97, .int .u8 (b.toNat : Int)] 5)) = .ok (.string ⟨#[97, b]⟩) (W.alloc (.cells #[.int .u8 97, .int .u8 (b.toNat : Int)] 5)) :=
  conv_bytes _ ⟨W.heap.size, 0, none⟩ 2 [97, b] (fun j hj => by
    rw [Addr.add_mid]
    have hj' : j = 0 ∨ j = 1 := by simp at hj; omega
    rcases hj' with rfl | rfl
    · exact cell_new rfl rfl
    · exact cell_new rfl rfl)
theorem nchk_rep (k : Nat) : nchk ⟨(List.replicate k (97 : UInt8)).toArray⟩ = if 1 ≤ k ∧ k ≤ 10 then 0 else 1 := by
  have hs : (⟨(List.replicate k (97 : UInt8)).toArray⟩ : ByteArray).size = k := by simp [ByteArray.size]
  unfold nchk
  rw [hs]
  by_cases h : 1 ≤ k ∧ k ≤ 10
  · rw [if_neg (by omega), if_pos h]
    refine fst_all fun i hi => ?_
    have hb : byteN ⟨(List.replicate k (97 : UInt8)).toArray⟩ i = 97 := by
      unfold byteN
      simp [hi]
    unfold sgn isL
    rw [hb]
    simp
  · rw [if_pos (by omega), if_neg h]
theorem nchk_one (b : UInt8) : nchk ⟨#[b]⟩ = if (97 : Int) ≤ (b.toNat : Int) ∧ (b.toNat : Int) ≤ 122 then 0 else 4 := by
  have hs : (⟨#[b]⟩ : ByteArray).size = 1 := rfl
  unfold nchk
  rw [hs, if_neg (by omega)]
  simp [fst, sgn, isL, isD, byteN]
theorem nchk_two (b : UInt8) : nchk ⟨#[97, b]⟩ = if ((97 : Int) ≤ (b.toNat : Int) ∧ (b.toNat : Int) ≤ 122) ∨ ((48 : Int) ≤ (b.toNat : Int) ∧ (b.toNat : Int) ≤ 57) then 0 else 4 := by
  have hs : (⟨#[97, b]⟩ : ByteArray).size = 2 := rfl
  unfold nchk
  rw [hs, if_neg (by omega)]
  simp [fst, sgn, isL, isD, byteN]
theorem grow_rowB {w wr w3 : World} {o : Obj} {u : Value} {n : Nat} {xs : List Value} {e : TypeId} {sz : Nat} (h : Below w.heap.size w wr) (hg : (wr.alloc o).grownBy w3 u.ownBlock) (hr : wr.ownsRow w.heap.size e sz u n xs) : Below w.heap.size w w3 := by
  have hs := h.size
  exact (h.alloc (by omega) o).grown hg (by simp; omega) (fun k hk => (hr.lt k hk).1)
set_option maxHeartbeats 4000000 in
theorem nameSize_walk (n : Int) (c : UInt8) (w : World) (hn : wfI n) :
    Calls Try.prog 5 #[.int .i64 n, .int .u8 (c.toNat : Int)] w fun e w' => e = .returned (.bool true) ∧ Below w.heap.size w w' := by
  obtain ⟨x, hx, hP⟩ := picked_const n 20 20 rfl hn (by omega) (by omega)
  have HP : Hid (∀ W, Calls Try.prog 13 #[.int .i64 n, .int .i64 20] W fun e w' => e = .returned (.int .i64 x) ∧ w' = W) := hP
  obtain ⟨i0, a1, a2, a3, a4⟩ := info_parts infoB
  have HI : Hid (Try.prog.info? 5 = some i0 ∧ i0.zero = some (.int .u8 0) ∧ i0.size = 1 ∧ i0.bytes = 1) := ⟨a1, a2, a3, a4⟩
  clear hP a1 a2 a3 a4 hn
  go_enter Try.func5, Try.ntmps5
  go_wp2_with (go_at_call 13; refine (HP.out _).mono ?_; rintro e w ⟨rfl, rfl⟩)
  go_loopw [6, 7] (fun v i wr => ∃ k : Nat, k ≤ x ∧ i = .int .i64 (k : Nat) ∧ wr.ownsRow w.heap.size 5 1 v k (List.replicate k (.int .u8 97)) ∧ Below w.heap.size w wr) (fun _ i _ => x + 1 - (intOf i).toNat)
  case atStart => exact ⟨0, by omega, rfl, by simpa using World.ownsRow_nil w w.heap.size 5 1, Below.refl _ _⟩
  case round =>
    obtain ⟨k, hk, rfl, hrow, hB⟩ := hrel
    by_cases hlt : k < x
    · obtain ⟨pu, cu, rfl⟩ := own_shape hrow
      have i1 : (k : Int) < (x : Int) := by omega
      have HROW : Hid (wr.ownsRow w.heap.size 5 1 (.slice pu k cu) k (List.replicate k (.int .u8 97))) := hrow
      have HB : Hid (Below w.heap.size w wr) := hB
      clear hrow hB
      go_wp2_with (at_builtin; refine wpList_append_own_at _ (by rfl) _ _ 38 (by rfl) w.heap.size 5 i0 (.int .u8 0) 1 1 Try.underlying38 HI.out.1 HI.out.2.1 HI.out.2.2.1 HI.out.2.2.2 rfl (by omega) (.slice pu k cu) k _ (by rfl) (HROW.out.alloc _) ⟨wr.heap.size, 0, none⟩ 1 1 [.int .u8 97] (by rfl) (by rfl) (World.news_of_block (heap_alloc_new _ _)) (by simp [Value.oneCell']) (by unfold maxLen; omega) (by omega) (by simp; have := HB.out.size; omega) ?_; intro v' w3 hown hgrow hiff hat; have HO : Hid (w3.ownsRow w.heap.size 5 1 v' (k + 1) (List.replicate k (.int .u8 97) ++ [.int .u8 97])) := hown; have HB3 : Hid (Below w.heap.size w w3) := grow_rowB HB.out hgrow HROW.out; obtain ⟨pv, cv, hvv⟩ := own_shape hown; subst hvv; clear hown hgrow hat hiff)
      go_roundw
      case rel => exact ⟨k + 1, by omega, by go_num, by rw [List.replicate_succ']; exact HO.out, HB3.out⟩
      case measure => simp [intOf]; omega
    · obtain rfl : k = x := by omega
      have hcv := conv_own hrow
      obtain ⟨pu, cu, rfl⟩ := own_shape hrow
      have HB : Hid (Below w.heap.size w wr) := hB
      have hc1 := conv_one c
      have hc2 := conv_two c (wr.alloc (.cells #[.int .u8 (c.toNat : Int)] 5))
      rw [show (wr.alloc (.cells #[.int .u8 (c.toNat : Int)] 5)).heap.size = wr.heap.size + 1 by simp] at hc2
      obtain ⟨r1, hr1⟩ : ∃ r, nchk ⟨(List.replicate k (97 : UInt8)).toArray⟩ = r := ⟨_, rfl⟩
      obtain ⟨r2, hr2⟩ : ∃ r, nchk ⟨#[c]⟩ = r := ⟨_, rfl⟩
      obtain ⟨r3, hr3⟩ : ∃ r, nchk ⟨#[97, c]⟩ = r := ⟨_, rfl⟩
      have H1 : Hid (∀ W, Calls Try.prog 14 #[.string ⟨(List.replicate k (97 : UInt8)).toArray⟩] W fun e w' => e = .returned (.int .i64 r1) ∧ w' = W) := fun W => by rw [← hr1]; exact name_any _ _
      have H2 : Hid (∀ W, Calls Try.prog 14 #[.string ⟨#[c]⟩] W fun e w' => e = .returned (.int .i64 r2) ∧ w' = W) := fun W => by rw [← hr2]; exact name_any _ _
      have H3 : Hid (∀ W, Calls Try.prog 14 #[.string ⟨#[97, c]⟩] W fun e w' => e = .returned (.int .i64 r3) ∧ w' = W) := fun W => by rw [← hr3]; exact name_any _ _
      rw [nchk_rep] at hr1
      rw [nchk_one] at hr2
      rw [nchk_two] at hr3
      have HR : Hid ((if 1 ≤ k ∧ k ≤ 10 then 0 else 1) = r1 ∧ (if (97 : Int) ≤ (c.toNat : Int) ∧ (c.toNat : Int) ≤ 122 then 0 else 4) = r2 ∧ (if ((97 : Int) ≤ (c.toNat : Int) ∧ (c.toNat : Int) ≤ 122) ∨ ((48 : Int) ≤ (c.toNat : Int) ∧ (c.toNat : Int) ≤ 57) then 0 else 4) = r3) := ⟨hr1, hr2, hr3⟩
      clear hrow hB hr1 hr2 hr3
      generalize (⟨(List.replicate k (97 : UInt8)).toArray⟩ : ByteArray) = S1 at hcv H1
      have hr := HR.out
      clear HR HP HI
      by_cases hk : 1 ≤ k ∧ k ≤ 10 <;> by_cases hL : (97 : Int) ≤ (c.toNat : Int) ∧ (c.toNat : Int) ≤ 122 <;> by_cases hD : (48 : Int) ≤ (c.toNat : Int) ∧ (c.toNat : Int) ≤ 57
      all_goals try (exfalso; omega)
      all_goals
        simp only [hk, hL, hD, if_true, if_false, or_true, or_false, true_or, and_self] at hr
        obtain ⟨rfl, rfl, rfl⟩ := hr
        go_wp2_with fail
        refine (H1.out _).mono ?_
        rintro e wr ⟨rfl, rfl⟩
        clear hcv H1
        go_wp2_with fail
        all_goals
          refine (H2.out _).mono ?_
          rintro e w4 ⟨rfl, rfl⟩
          go_wp2_with fail
          refine (H3.out _).mono ?_
          rintro e w5 ⟨rfl, rfl⟩
          go_wp2
          all_goals
            go_ret
            refine ⟨ret_bool ?_, (HB.out.alloc HB.out.size _).alloc (by have := HB.out.size; simp; omega) _⟩
            first | rfl | (simp <;> omega) | omega
end Go.Proofs.Ythenkpeibkpmkab
