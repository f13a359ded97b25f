/-
  Whether an operation may be told as bytes: the document's WireFault; the law.
-/
import Derived.Test.YtepgkemnpcadiaaWc
namespace Go.Proofs.Ytepgkemnpcadiaa
open Go.ChangeShapes Go.WideShapes Go.ChangeAt Go.RowKit Go.Maps
set_option linter.unusedVariables false
set_option linter.unusedSimpArgs false
theorem fst_keep {f : Nat → Int} {k n : Nat} (h : fst f k ≠ 0) (hk : k ≤ n) : fst f n = fst f k := by
  induction n with
  | zero => obtain rfl : k = 0 := by omega
            rfl
  | succ n ih =>
    by_cases e : k = n + 1
    · subst e; rfl
    · have := ih (by omega)
      show (if fst f n ≠ 0 then fst f n else f n) = fst f k
      rw [if_pos (by rw [this]; exact h), this]
/-- What is wrong ahead of the values. -/
def evh (a b : Int) (n : Nat) : Int := if schk a b ≠ 0 then schk a b else if 4 < n then 1 else 0
theorem evk_h (a b : Int) (l : List Vl) : evk a b l = if evh a b l.length ≠ 0 then evh a b l.length else fst (vat l) l.length := by
  unfold evk evh
  by_cases h : schk a b = 0
  · by_cases h2 : 4 < l.length <;> simp [h, h2]
  · simp [h]
set_option maxHeartbeats 8000000 in
theorem wfault_any (o : Opn) (v : Value) (w : World) (hv : ValsAt w v o.l) :
    Calls Try.prog 29 #[opv o v] w fun e w' => e = .returned (.int .i64 (ochk o)) ∧ Below w.heap.size w w' := by
  obtain ⟨z, hz⟩ : ∃ z, ochk o = z := ⟨_, rfl⟩
  obtain ⟨p, cap, hvs, hmax⟩ := hv.shape'
  have HV := hid hv
  subst hvs
  obtain ⟨r, hr⟩ : ∃ r, brk o = r := ⟨_, rfl⟩
  have HC := hid (fun W => bareF_any o p cap W)
  have HN := hid (fun W => nfault_any o.s W)
  have HS := hid (fun W => spanFault_any o.a o.b W)
  have H2 := hid (fun h h2 => (hz.symm.trans (@ochk_2 o h h2)))
  have H3 := hid (fun h h2 => (hz.symm.trans (@ochk_3 o h h2)))
  have H1 := hid (fun h h2 => (hz.symm.trans (@ochk_1 o h h2)))
  have H0 := hid (fun (h : r ≠ 0) => (hz.symm.trans (ochk_of hr h)))
  have HK := hid (@brk_kind o)
  have HR := hid hr
  rw [hr] at HC
  rw [hz]
  clear hz hr hv
  obtain ⟨k, s, a, b, l, d, c⟩ := o
  obtain ⟨n, hn⟩ : ∃ n, l.length = n := ⟨_, rfl⟩
  unfold opv
  simp only at hmax
  have hmx : (n : Int) ≤ 9223372036854775807 := by rw [← hn]; unfold maxLen at hmax; omega
  simp only [hn] at HC HV ⊢
  have HNL := hid hn
  by_cases hr0 : r = 0
  · subst hr0
    rcases (HK.out HR.out : k = 1 ∨ k = 2 ∨ k = 3) with hk | hk | hk
    · subst hk
      have hz := H1.out HR.out rfl
      simp only at hz
      rw [evk_h, hn] at hz
      obtain ⟨y, hy⟩ : ∃ y, schk a b = y := ⟨_, rfl⟩
      simp only [hy] at HS
      obtain ⟨q, hq⟩ : ∃ q, evh a b n = q := ⟨_, rfl⟩
      have HQ : Hid (q = if y ≠ 0 then y else if 4 < n then 1 else 0) := by rw [← hq, ← hy]; rfl
      rw [hq] at hz
      have HZ := hid hz
      obtain ⟨L, hL⟩ : ∃ L : Prop, L = ((4 : Int) < n) := ⟨_, rfl⟩
      have hgt : y = 0 → 4 < n ∨ ¬ 4 < n := fun _ => by omega
      clear hy hz hq hn H0 H1 H2 H3 hL L hgt hmax
      have hcase : (y ≠ 0 ∧ q = y) ∨ (y = 0 ∧ 4 < n ∧ q = 1) ∨ (y = 0 ∧ ¬ 4 < n ∧ q = 0) := by
        have h := HQ.out
        by_cases y0 : y = 0
        · by_cases n4 : 4 < n
          · exact Or.inr (Or.inl ⟨y0, n4, by rw [h, if_neg (by simpa using y0), if_pos n4]⟩)
          · exact Or.inr (Or.inr ⟨y0, n4, by rw [h, if_neg (by simpa using y0), if_neg n4]⟩)
        · exact Or.inl ⟨y0, by rw [h, if_pos y0]⟩
      go_enter Try.func29, Try.ntmps29
      go_wp2_with fail
      refine (HC.out _).mono ?_
      rintro e w1 ⟨rfl, hb1⟩
      have HB1 := hid (below_trans ((Below.refl _ w).alloc (Nat.le_refl _) (.cells #[.int .i64 1, .string s, .int .i64 a, .int .i64 b, .slice p n cap, .int .i64 d, .bool c] 26)) hb1 (by simp))
      have hop := (OpAt.new w ⟨1, s, a, b, l, d, c⟩ (.slice p n cap) 26).below hb1 (by simp)
      have HOP := hid hop
      obtain ⟨lt, c0, c1, c2, c3, c4, c5, c6⟩ := hop
      simp only at c0 c1 c2 c3 c5 c6
      clear hb1 lt
      go_wp2_with fail
      refine (HS.out _).mono ?_
      rintro e w2 ⟨rfl, hb2⟩
      have HB2 := hid (below_trans HB1.out hb2 HB1.out.size)
      have hop := HOP.out.below hb2 HOP.out.lt
      have HOP2 := hid hop
      clear c0 c1 c2 c3 c4 c5 c6 hb2
      obtain ⟨lt, c0, c1, c2, c3, c4, c5, c6⟩ := hop
      simp only at c0 c1 c2 c3 c5 c6
      clear lt
      rcases hcase with ⟨hy0, hqy⟩ | ⟨hy0, hn4, hqy⟩ | ⟨hy0, hn4, hqy⟩
      · have hyb : (y == 0) = false := by simpa using hy0
        have HQ0 := hid hqy
        have HY0 := hid hy0
        clear hqy
        go_wp2
        by_cases hn0 : 0 < n
        · have hn1 : (0 : Int) < n := by omega
          go_loopw [3, 4] (fun x i wr => x = .int .i64 y ∧ i = .int .i64 0 ∧ wr = w2) (fun _ i _ => 0)
          case atStart => exact ⟨rfl, rfl, rfl⟩
          case round =>
            obtain ⟨rfl, rfl, rfl⟩ := hrel
            go_wp2
            go_ret
            exact ⟨ret_int (by rw [HZ.out, HQ0.out, if_pos HY0.out, if_pos HY0.out]), HB2.out⟩
        · have hn1 : ¬ (0 : Int) < n := by omega
          go_loopw [3, 4] (fun x i wr => x = .int .i64 y ∧ i = .int .i64 0 ∧ wr = w2) (fun _ i _ => 0)
          case atStart => exact ⟨rfl, rfl, rfl⟩
          case round =>
            obtain ⟨rfl, rfl, rfl⟩ := hrel
            go_wp2
            go_ret
            exact ⟨ret_int (by rw [HZ.out, HQ0.out, if_pos HY0.out, if_pos HY0.out]), HB2.out⟩
      · subst hy0
        have hn1 : (4 : Int) < n := by omega
        have hn2 : (0 : Int) < n := by omega
        have HQ0 := hid hqy
        clear hqy
        go_wp2
        go_loopw [3, 4] (fun x i wr => x = .int .i64 1 ∧ i = .int .i64 0 ∧ wr = w2) (fun _ i _ => 0)
        case atStart => exact ⟨rfl, rfl, rfl⟩
        case round =>
          obtain ⟨rfl, rfl, rfl⟩ := hrel
          go_wp2
          go_ret
          exact ⟨ret_int (by rw [HZ.out, HQ0.out]; simp), HB2.out⟩
      · subst hy0
        have hn1 : ¬ (4 : Int) < n := by omega
        have HQ0 := hid hqy
        have HW2 := hid (HV.out.below HB2.out)
        clear hqy
        go_wp2
        clear c0 c1 c2 c3 c4 c5 c6
        go_loopw [3, 4] (fun x i wr => ∃ k : Nat, k ≤ n ∧ i = .int .i64 (k : Nat) ∧ x = .int .i64 (fst (vat l) k) ∧ Below w.heap.size w wr ∧ OpAt wr w.heap.size ⟨1, s, a, b, l, d, c⟩ (.slice p n cap)) (fun _ i _ => n + 1 - (intOf i).toNat)
        case atStart => exact ⟨0, by omega, rfl, rfl, HB2.out, HOP2.out⟩
        case round =>
          obtain ⟨k, hk, rfl, rfl, hB, hop⟩ := hrel
          obtain ⟨x, hx⟩ : ∃ x, fst (vat l) k = x := ⟨_, rfl⟩
          rw [hx]
          have HX := hid hx
          have HB := hid hB
          have HO := hid hop
          obtain ⟨lt, c0, c1, c2, c3, c4, c5, c6⟩ := hop
          simp only at c0 c1 c2 c3 c5 c6
          clear hx lt
          by_cases hlt : k < n
          · have i2 : (k : Int) < (n : Int) := by omega
            by_cases hx0 : x = 0
            · subst hx0
              have hvw := HV.out
              obtain ⟨p2, cap2, hsh, hcap2, hmax2, hp⟩ := hvw
              have hkd : k < l.length := by have := HNL.out; omega
              obtain ⟨g, off, hg, hc⟩ := hp (by omega)
              obtain ⟨hgs, e0, e1, e2⟩ := hc k hkd
              rw [HNL.out] at hsh
              cases hsh
              subst hg
              have HV1 : Hid (vat l k = vchk l[k]) := vat_at hkd
              obtain ⟨q, hq⟩ : ∃ q, l[k] = q := ⟨_, rfl⟩
              rw [hq] at e0 e1 e2 HV1
              have b0 : wr.cell? ⟨g, off + k * 3, none⟩ = some (.int .i64 q.k) := (hB.cell (p := ⟨g, off + k * 3, none⟩) hgs).trans e0
              have b1 : wr.cell? ⟨g, off + k * 3 + 1, none⟩ = some (.int .i64 q.n) := (hB.cell (p := ⟨g, off + k * 3 + 1, none⟩) hgs).trans e1
              have b2 : wr.cell? ⟨g, off + k * 3 + 2, none⟩ = some (.string q.s) := (hB.cell (p := ⟨g, off + k * 3 + 2, none⟩) hgs).trans e2
              have i1 : (0 : Int) ≤ (k : Int) := by omega
              obtain ⟨y, hy⟩ : ∃ y, vchk q = y := ⟨_, rfl⟩
              have HY := hid hy
              clear hy hq hc e0 e1 e2 hp hgs hB hkd hcap2 hmax2
              go_wp2_with (go_at_call 49; refine (vfault_any ⟨q.k, q.n, q.s⟩ _).mono ?_; rintro e w3 ⟨rfl, hb3⟩; rw [show vchk ⟨q.k, q.n, q.s⟩ = y from HY.out]; have HB3 := hid hb3; clear hb3)
              go_roundw
              case rel =>
                refine ⟨k + 1, by omega, by go_num, ?_, below_trans HB.out HB3.out HB.out.size, HO.out.below HB3.out HO.out.lt⟩
                have : fst (vat l) (k + 1) = y := by
                  show (if fst (vat l) k ≠ 0 then fst (vat l) k else vat l k) = y
                  rw [HX.out, if_neg (by simp), HV1.out, HY.out]
                rw [this]
              case measure => simp [intOf]; omega
            · have hxb : (x == 0) = false := by simpa using hx0
              clear hB
              go_wp2
              go_ret
              exact ⟨ret_int (by rw [HZ.out, HQ0.out]; have := fst_keep (n := n) (by rw [HX.out]; exact hx0) hk; simp [this, HX.out, hx0]), HB.out⟩
          · have i2 : ¬ (k : Int) < (n : Int) := by omega
            obtain rfl : k = n := by omega
            by_cases hx0 : x = 0
            · subst hx0
              clear hB
              go_wp2_with (go_at_call 50; refine (HN.out _).mono ?_; rintro e w3 ⟨rfl, rfl⟩)
              go_ret
              exact ⟨ret_int (by rw [HZ.out, HQ0.out, HX.out]; simp), HB.out⟩
            · have hxb : (x == 0) = false := by simpa using hx0
              clear hB
              go_wp2
              go_ret
              exact ⟨ret_int (by rw [HZ.out, HQ0.out, HX.out]; simp [hx0]), HB.out⟩
    · subst hk
      have hz := H2.out HR.out rfl
      have HZ := hid hz
      obtain ⟨t, ht⟩ := bool_of (0 ≤ d ∧ d ≤ 1099511627776)
      have HT := hid (fun W => timeMay_any d t ht W)
      have HTT := hid ht
      clear hn ht hz hmax
      go_enter Try.func29, Try.ntmps29
      go_wp2_with fail
      refine (HC.out _).mono ?_
      rintro e w1 ⟨rfl, hb1⟩
      have HB1 := hid (below_trans ((Below.refl _ w).alloc (Nat.le_refl _) (.cells #[.int .i64 2, .string s, .int .i64 a, .int .i64 b, .slice p n cap, .int .i64 d, .bool c] 26)) hb1 (by simp))
      obtain ⟨lt, c0, c1, c2, c3, c4, c5, c6⟩ := (OpAt.new w ⟨2, s, a, b, l, d, c⟩ (.slice p n cap) 26).below hb1 (by simp)
      simp only at c0 c1 c2 c3 c5 c6
      clear hb1 lt
      cases t
      all_goals
        go_wp2_with (go_at_call 47; refine (HT.out _).mono ?_; rintro e w3 ⟨rfl, rfl⟩)
        go_ret
        refine ⟨ret_int ?_, HB1.out⟩
        rw [HZ.out]
        unfold tmk
        first | rw [if_pos HTT.out.t] | rw [if_neg HTT.out.f]
    · subst hk
      have HZ := hid (H3.out HR.out rfl)
      clear hn hmax
      go_enter Try.func29, Try.ntmps29
      go_wp2_with fail
      refine (HC.out _).mono ?_
      rintro e w1 ⟨rfl, hb1⟩
      have HB1 := hid (below_trans ((Below.refl _ w).alloc (Nat.le_refl _) (.cells #[.int .i64 3, .string s, .int .i64 a, .int .i64 b, .slice p n cap, .int .i64 d, .bool c] 26)) hb1 (by simp))
      obtain ⟨lt, c0, c1, c2, c3, c4, c5, c6⟩ := (OpAt.new w ⟨3, s, a, b, l, d, c⟩ (.slice p n cap) 26).below hb1 (by simp)
      simp only at c0 c1 c2 c3 c5 c6
      clear hb1 lt
      go_wp2_with (go_at_call 50; refine (HN.out _).mono ?_; rintro e w3 ⟨rfl, rfl⟩)
      go_ret
      exact ⟨ret_int HZ.out.symm, HB1.out⟩
  · have hrb : (r == 0) = false := by simpa using hr0
    have hrd : (r != 0) = true := by simpa using hr0
    have HZ := hid (H0.out hr0)
    clear hn hmax
    go_enter Try.func29, Try.ntmps29
    go_wp2_with fail
    refine (HC.out _).mono ?_
    rintro e w1 ⟨rfl, hb1⟩
    have HB1 := hid (below_trans ((Below.refl _ w).alloc (Nat.le_refl _) (.cells #[.int .i64 k, .string s, .int .i64 a, .int .i64 b, .slice p n cap, .int .i64 d, .bool c] 26)) hb1 (by simp))
    clear hb1
    go_wp2
    go_ret
    exact ⟨ret_int HZ.out.symm, HB1.out⟩
end Go.Proofs.Ytepgkemnpcadiaa
