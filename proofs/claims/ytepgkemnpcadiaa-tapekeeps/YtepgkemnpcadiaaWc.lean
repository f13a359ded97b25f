/-
  Whether an operation may be told as bytes: Check, WireFault; the two agree.
-/
import Derived.Test.YtepgkemnpcadiaaWb
namespace Go.Proofs.Ytepgkemnpcadiaa
open Go.ChangeShapes Go.WideShapes Go.ChangeAt Go.RowKit Go.Maps
set_option linter.unusedVariables false
set_option linter.unusedSimpArgs false
theorem bareP_any (o : Opn) (p : Option Addr) (cap : Nat) (w : World) :
    Calls Try.prog 42 #[.agg #[.int .i64 o.k, .string o.s, .int .i64 o.a, .int .i64 o.b, .slice p o.l.length cap, .int .i64 o.d, .bool o.c]] w fun x w' => x = .returned (.int .i64 (brk o)) ∧ Below w.heap.size w w' :=
  S.bare_any _ _ _ _ _ _ _ _ _ w _ rfl
theorem bareF_any (o : Opn) (p : Option Addr) (cap : Nat) (w : World) :
    Calls Try.prog 46 #[.agg #[.int .i64 o.k, .string o.s, .int .i64 o.a, .int .i64 o.b, .slice p o.l.length cap, .int .i64 o.d, .bool o.c]] w fun x w' => x = .returned (.int .i64 (brk o)) ∧ Below w.heap.size w w' :=
  S.opFault_any _ _ _ _ _ _ _ _ _ w _ rfl
theorem ochk_of {o : Opn} {r : Int} (h : brk o = r) (h0 : r ≠ 0) : ochk o = r := by unfold ochk; rw [h, if_pos h0]
theorem ochk_2 {o : Opn} (h : brk o = 0) (hk : o.k = 2) : ochk o = tmk o.d := by unfold ochk; rw [if_neg (by rw [h]; simp), if_pos hk]
theorem ochk_3 {o : Opn} (h : brk o = 0) (hk : o.k = 3) : ochk o = nchk o.s := by unfold ochk; rw [if_neg (by rw [h]; simp), if_neg (by omega), if_neg (fun c => by omega)]
theorem ochk_1 {o : Opn} (h : brk o = 0) (hk : o.k = 1) : ochk o = if evk o.a o.b o.l ≠ 0 then evk o.a o.b o.l else nchk o.s := by
  unfold ochk; rw [if_neg (by rw [h]; simp), if_neg (by omega)]; simp [hk]
set_option maxHeartbeats 4000000 in
theorem wchk_any (o : Opn) (v : Value) (w : World) (hv : ValsAt w v o.l) :
    Calls Try.prog 26 #[opv o v] w fun e w' => e = .returned (.int .i64 (ochk o)) ∧ Below w.heap.size w w' := by
  obtain ⟨z, hz⟩ : ∃ z, ochk o = z := ⟨_, rfl⟩
  obtain ⟨p, cap, hvs, _⟩ := hv.shape'
  have HV := hid hv
  subst hvs
  obtain ⟨r, hr⟩ : ∃ r, brk o = r := ⟨_, rfl⟩
  have HC := hid (fun W => bareP_any o p cap W)
  have HN := hid (fun W => name_any o.s W)
  have HD := hid (fun W => addZ_any o.d _ rfl W)
  have HE := hid (fun W (h : ValsAt W (.slice p o.l.length cap) o.l) => wev_any o.a o.b (.slice p o.l.length cap) o.l W h)
  have H2 := hid (fun h h2 => (hz.symm.trans (@ochk_2 o h h2)))
  have H3 := hid (fun h h2 => (hz.symm.trans (@ochk_3 o h h2)))
  have H1 := hid (fun h h2 => (hz.symm.trans (@ochk_1 o h h2)))
  have H0 := hid (fun (h : r ≠ 0) => (hz.symm.trans (ochk_of hr h)))
  have HK := hid (@brk_kind o)
  have HR := hid hr
  rw [hr] at HC
  rw [hz]
  clear hz hr hv
  obtain ⟨k, s, a, b, l, d, c⟩ := o
  obtain ⟨n, hn⟩ : ∃ n, l.length = n := ⟨_, rfl⟩
  unfold opv
  simp only [hn] at HC HE HV ⊢
  by_cases hr0 : r = 0
  · subst hr0
    rcases (HK.out HR.out : k = 1 ∨ k = 2 ∨ k = 3) with hk | hk | hk
    · subst hk
      have hz := H1.out HR.out rfl
      simp only at hz
      obtain ⟨y, hy⟩ : ∃ y, evk a b l = y := ⟨_, rfl⟩
      simp only [hy] at hz HE
      have HZ := hid hz
      clear hy hz hn
      by_cases hy0 : y = 0
      · subst hy0
        go_enter Try.func26, Try.ntmps26
        go_wp2_with fail
        refine (HC.out _).mono ?_
        rintro e w1 ⟨rfl, hb1⟩
        have HB1 := hid (below_trans ((Below.refl _ w).alloc (Nat.le_refl _) (.cells #[.int .i64 1, .string s, .int .i64 a, .int .i64 b, .slice p n cap, .int .i64 d, .bool c] 26)) hb1 (by simp))
        obtain ⟨lt, c0, c1, c2, c3, c4, c5, c6⟩ := (OpAt.new w ⟨1, s, a, b, l, d, c⟩ (.slice p n cap) 26).below hb1 (by simp)
        simp only at c0 c1 c2 c3 c5 c6
        have HG := hid lt
        have hbb := hb1
        clear hb1 lt
        go_wp2_with fail
        refine (HE.out _ ((HV.out.below HB1.out))).mono ?_
        rintro e w2 ⟨rfl, hb2⟩
        have k1 : w2.cell? ⟨w.heap.size, 1, none⟩ = some (.string s) := (hb2.cell (p := ⟨w.heap.size, 1, none⟩) HG.out).trans c1
        have HB2 := hid (below_trans HB1.out hb2 HB1.out.size)
        clear c0 c1 c2 c3 c4 c5 c6 hb2 hbb
        go_wp2_with (go_at_call 45; refine (HN.out _).mono ?_; rintro e w3 ⟨rfl, rfl⟩)
        go_ret
        exact ⟨ret_int (by rw [HZ.out, if_neg (by simp)]), HB2.out⟩
      · have hyb : (y == 0) = false := by simpa using hy0
        have hyd : (y != 0) = true := by simpa using hy0
        go_enter Try.func26, Try.ntmps26
        go_wp2_with fail
        refine (HC.out _).mono ?_
        rintro e w1 ⟨rfl, hb1⟩
        have HB1 := hid (below_trans ((Below.refl _ w).alloc (Nat.le_refl _) (.cells #[.int .i64 1, .string s, .int .i64 a, .int .i64 b, .slice p n cap, .int .i64 d, .bool c] 26)) hb1 (by simp))
        obtain ⟨lt, c0, c1, c2, c3, c4, c5, c6⟩ := (OpAt.new w ⟨1, s, a, b, l, d, c⟩ (.slice p n cap) 26).below hb1 (by simp)
        simp only at c0 c1 c2 c3 c5 c6
        clear hb1 lt
        go_wp2_with fail
        refine (HE.out _ ((HV.out.below HB1.out))).mono ?_
        rintro e w2 ⟨rfl, hb2⟩
        have HB2 := hid (below_trans HB1.out hb2 HB1.out.size)
        clear c0 c1 c2 c3 c4 c5 c6 hb2
        go_wp2
        go_ret
        exact ⟨ret_int (by rw [HZ.out, if_pos hy0]), HB2.out⟩
    · subst hk
      have HZ := hid (H2.out HR.out rfl)
      clear hn
      go_enter Try.func26, Try.ntmps26
      go_wp2_with fail
      refine (HC.out _).mono ?_
      rintro e w1 ⟨rfl, hb1⟩
      have HB1 := hid (below_trans ((Below.refl _ w).alloc (Nat.le_refl _) (.cells #[.int .i64 2, .string s, .int .i64 a, .int .i64 b, .slice p n cap, .int .i64 d, .bool c] 26)) hb1 (by simp))
      obtain ⟨lt, c0, c1, c2, c3, c4, c5, c6⟩ := (OpAt.new w ⟨2, s, a, b, l, d, c⟩ (.slice p n cap) 26).below hb1 (by simp)
      simp only at c0 c1 c2 c3 c5 c6
      clear hb1 lt
      go_wp2_with fail
      refine (HD.out _).mono ?_
      rintro e w2 ⟨x, rfl, rfl⟩
      go_wp2
      go_ret
      exact ⟨ret_int HZ.out.symm, HB1.out⟩
    · subst hk
      have HZ := hid (H3.out HR.out rfl)
      clear hn
      go_enter Try.func26, Try.ntmps26
      go_wp2_with fail
      refine (HC.out _).mono ?_
      rintro e w1 ⟨rfl, hb1⟩
      have HB1 := hid (below_trans ((Below.refl _ w).alloc (Nat.le_refl _) (.cells #[.int .i64 3, .string s, .int .i64 a, .int .i64 b, .slice p n cap, .int .i64 d, .bool c] 26)) hb1 (by simp))
      obtain ⟨lt, c0, c1, c2, c3, c4, c5, c6⟩ := (OpAt.new w ⟨3, s, a, b, l, d, c⟩ (.slice p n cap) 26).below hb1 (by simp)
      simp only at c0 c1 c2 c3 c5 c6
      clear hb1 lt
      go_wp2_with (go_at_call 45; refine (HN.out _).mono ?_; rintro e w3 ⟨rfl, rfl⟩)
      go_ret
      exact ⟨ret_int HZ.out.symm, HB1.out⟩
  · have hrb : (r == 0) = false := by simpa using hr0
    have hrd : (r != 0) = true := by simpa using hr0
    have HZ := hid (H0.out hr0)
    clear hn
    go_enter Try.func26, Try.ntmps26
    go_wp2_with fail
    refine (HC.out _).mono ?_
    rintro e w1 ⟨rfl, hb1⟩
    have HB1 := hid (below_trans ((Below.refl _ w).alloc (Nat.le_refl _) (.cells #[.int .i64 k, .string s, .int .i64 a, .int .i64 b, .slice p n cap, .int .i64 d, .bool c] 26)) hb1 (by simp))
    clear hb1
    go_wp2
    go_ret
    exact ⟨ret_int HZ.out.symm, HB1.out⟩
end Go.Proofs.Ytepgkemnpcadiaa
