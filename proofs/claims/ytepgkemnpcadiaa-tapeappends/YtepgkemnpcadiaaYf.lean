/-
  Operations that are the same; WireDecodes.
-/
import Derived.Test.YtepgkemnpcadiaaXb
import Derived.Test.YtepgkemnpcadiaaYe
namespace Go.Proofs.Ytepgkemnpcadiaa
open Go.ChangeShapes Go.WideShapes Go.ChangeAt Go.RowKit Go.Maps
set_option linter.unusedVariables false
set_option linter.unusedSimpArgs false
set_option maxRecDepth 20000
theorem below_two (w : World) (o1 o2 : Obj) : Below w.heap.size w ((w.alloc o1).alloc o2) := ((Below.refl _ w).alloc (Nat.le_refl _) o1).alloc (by simp) o2
set_option maxHeartbeats 4000000 in
theorem octets_any (l : List UInt8) (v : Value) (w : World) (hv : BR w v l) (hl : l.length ≤ 140737488355328) :
    Calls Try.prog 30 #[v] w fun e w' => ∃ v', e = .returned v' ∧ BO w' w.heap.size v' l ∧ Below w.heap.size w w' := by
  have HV := hid hv
  have HL := hid hl
  obtain ⟨p, cap, hsh⟩ := hv.shape
  obtain ⟨n, hn⟩ : ∃ n, l.length = n := ⟨_, rfl⟩
  rw [hn] at hsh
  subst hsh
  clear hv hl hn
  go_enter Try.func30, Try.ntmps30
  go_wp2_with (at_builtin; go_loud (refine wp_copyB (by rfl) _ _ (by rfl) w _ l (by rfl) (by rfl) HV.out HL.out ?_); intro v1 w1 ho hb; have HO1 := hid ho; have HB1 := hid hb; obtain ⟨p1, n1, m1, hsh⟩ := ho.shape3; subst hsh; clear ho hb)
  go_ret
  exact ⟨_, rfl, HO1.out, HB1.out⟩
set_option maxHeartbeats 8000000 in
theorem sameVals_any (u1 u2 : Value) (l : List Vl) (w : World) (h1 : ValsAt w u1 l) (h2 : ValsAt w u2 l) (hl : l.length ≤ 1000) :
    Calls Try.prog 76 #[u1, u2] w fun e w' => e = .returned (.bool true) ∧ Below w.heap.size w w' := by
  obtain ⟨p1, cap1, rfl, hc1, hm1, hp1⟩ := h1
  obtain ⟨p2, cap2, rfl, hc2, hm2, hp2⟩ := h2
  obtain ⟨n, hn⟩ : ∃ n, l.length = n := ⟨_, rfl⟩
  have HP1 : Hid (0 < l.length → ∃ g off, p1 = some ⟨g, off, none⟩ ∧ ∀ j (hj : j < l.length), g < w.heap.size ∧ w.cell? ⟨g, off + j * 3, none⟩ = some (.int .i64 l[j].k) ∧ w.cell? ⟨g, off + j * 3 + 1, none⟩ = some (.int .i64 l[j].n) ∧ w.cell? ⟨g, off + j * 3 + 2, none⟩ = some (.string l[j].s)) := hp1
  have HP2 : Hid (0 < l.length → ∃ g off, p2 = some ⟨g, off, none⟩ ∧ ∀ j (hj : j < l.length), g < w.heap.size ∧ w.cell? ⟨g, off + j * 3, none⟩ = some (.int .i64 l[j].k) ∧ w.cell? ⟨g, off + j * 3 + 1, none⟩ = some (.int .i64 l[j].n) ∧ w.cell? ⟨g, off + j * 3 + 2, none⟩ = some (.string l[j].s)) := hp2
  have HN := hid hn
  have hmx : (n : Int) ≤ 1000 := by omega
  rw [hn]
  clear hc1 hm1 hp1 hc2 hm2 hp2 hn hl
  go_enter Try.func76, Try.ntmps76
  go_wp2
  go_loopw [5] (fun i wr => ∃ k : Nat, k ≤ n ∧ i = .int .i64 (k : Nat) ∧ Below w.heap.size w wr) (fun i _ => n + 1 - (intOf i).toNat)
  case atStart => exact ⟨0, by omega, rfl, Below.refl _ _⟩
  case round =>
    obtain ⟨k, hk, rfl, hB⟩ := hrel
    have HB := hid hB
    by_cases hlt : k < n
    · have hkd : k < l.length := by have := HN.out; omega
      obtain ⟨g1, off1, hg1, hx1⟩ := HP1.out (by omega)
      obtain ⟨g2, off2, hg2, hx2⟩ := HP2.out (by omega)
      obtain ⟨hgs1, a0, a1, a2⟩ := hx1 k hkd
      obtain ⟨hgs2, b0, b1, b2⟩ := hx2 k hkd
      subst hg1 hg2
      obtain ⟨d, hd⟩ : ∃ d, l[k] = d := ⟨_, rfl⟩
      rw [hd] at a0 a1 a2 b0 b1 b2
      have x0 := (hB.cell (p := ⟨g1, off1 + k * 3, none⟩) hgs1).trans a0
      have x1 := (hB.cell (p := ⟨g1, off1 + k * 3 + 1, none⟩) hgs1).trans a1
      have x2 := (hB.cell (p := ⟨g1, off1 + k * 3 + 2, none⟩) hgs1).trans a2
      have y0 := (hB.cell (p := ⟨g2, off2 + k * 3, none⟩) hgs2).trans b0
      have y1 := (hB.cell (p := ⟨g2, off2 + k * 3 + 1, none⟩) hgs2).trans b1
      have y2 := (hB.cell (p := ⟨g2, off2 + k * 3 + 2, none⟩) hgs2).trans b2
      have i1 : (0 : Int) ≤ (k : Int) := by omega
      have i2 : (k : Int) < (n : Int) := by omega
      clear a0 a1 a2 b0 b1 b2 hx1 hx2 hd hkd hB
      go_wp2_with fail
      go_quiet (fail)
      go_wp2_with fail
      go_roundw
      case rel => exact ⟨k + 1, by omega, by go_num, by first | exact HB.out | exact HB.out.trans ⟨rfl, rfl, rfl, Nat.le_refl _, fun _ _ => rfl⟩⟩
      case measure => simp [intOf]; omega
    · have i2 : ¬ (k : Int) < (n : Int) := by omega
      clear hB
      go_wp2
      go_ret
      exact ⟨ret_bool (by simp), HB.out⟩
set_option maxHeartbeats 8000000 in
theorem sameOp_any (o : Opn) (u1 u2 : Value) (w : World) (h1 : ValsAt w u1 o.l) (h2 : ValsAt w u2 o.l) (hl : o.l.length ≤ 1000) :
    Calls Try.prog 59 #[opv o u1, opv o u2] w fun e w' => e = .returned (.bool true) ∧ Below w.heap.size w w' := by
  obtain ⟨p1, cap1, hs1, _⟩ := h1.shape'
  obtain ⟨p2, cap2, hs2, _⟩ := h2.shape'
  subst hs1 hs2
  have HS := hid (fun W a b => sameVals_any (.slice p1 o.l.length cap1) (.slice p2 o.l.length cap2) o.l W a b hl)
  have H1 := hid h1
  have H2 := hid h2
  clear h1 h2 hl
  obtain ⟨k, s, a, b, l, d, c⟩ := o
  unfold opv
  simp only at HS H1 H2 ⊢
  generalize l.length = n at *
  go_enter Try.func59, Try.ntmps59
  go_wp2_with fail
  have hb := below_two w (.cells #[.int .i64 k, .string s, .int .i64 a, .int .i64 b, .slice p1 n cap1, .int .i64 d, .bool c] 26) (.cells #[.int .i64 k, .string s, .int .i64 a, .int .i64 b, .slice p2 n cap2, .int .i64 d, .bool c] 26)
  refine (HS.out _ (H1.out.below hb) (H2.out.below hb)).mono ?_
  rintro e w2 ⟨rfl, hb2⟩
  have HB2 := hid (below_trans hb hb2 hb.size)
  clear hb hb2
  go_wp2
  go_ret
  exact ⟨ret_bool (by simp), HB2.out⟩
end Go.Proofs.Ytepgkemnpcadiaa
