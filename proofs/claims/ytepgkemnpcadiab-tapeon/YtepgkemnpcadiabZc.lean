/-
  An operation is read as it was written: WireBack, by the contract of big.
-/
import Derived.Test.YtepgkemnpcadiabZb
namespace Go.Proofs.Ytepgkemnpcadiab
open Go.ChangeShapes Go.WideShapes Go.ChangeAt Go.RowKit Go.Maps
set_option linter.unusedVariables false
set_option linter.unusedSimpArgs false
set_option maxRecDepth 20000
set_option maxHeartbeats 8000000 in
theorem sameOpK_any (o : Opn) (u1 u2 : Value) (w : World) (h1 : ValsAt w u1 o.l) (h2 : ValsAt w u2 o.l) (hl : o.l.length ≤ 1000) :
    Calls Try.prog 22 #[opv o u1, opv o u2] w fun e w' => e = .returned (.bool true) ∧ Below w.heap.size w w' := by
  obtain ⟨p1, cap1, rfl, _, _, hp1⟩ := h1
  obtain ⟨p2, cap2, rfl, _, _, hp2⟩ := h2
  obtain ⟨k, s, a, b, l, d, c⟩ := o
  simp only at hp1 hp2 hl ⊢
  obtain ⟨n, hn⟩ : ∃ n, l.length = n := ⟨_, rfl⟩
  have HP1 : Hid (0 < l.length → ∃ g off, p1 = some ⟨g, off, none⟩ ∧ ∀ j (hj : j < l.length), g < w.heap.size ∧ w.cell? ⟨g, off + j * 3, none⟩ = some (.int .i64 l[j].k) ∧ w.cell? ⟨g, off + j * 3 + 1, none⟩ = some (.int .i64 l[j].n) ∧ w.cell? ⟨g, off + j * 3 + 2, none⟩ = some (.string l[j].s)) := hp1
  have HP2 : Hid (0 < l.length → ∃ g off, p2 = some ⟨g, off, none⟩ ∧ ∀ j (hj : j < l.length), g < w.heap.size ∧ w.cell? ⟨g, off + j * 3, none⟩ = some (.int .i64 l[j].k) ∧ w.cell? ⟨g, off + j * 3 + 1, none⟩ = some (.int .i64 l[j].n) ∧ w.cell? ⟨g, off + j * 3 + 2, none⟩ = some (.string l[j].s)) := hp2
  have HN := hid hn
  have hmx : (n : Int) ≤ 1000 := by omega
  unfold opv
  simp only
  rw [hn]
  have hb : Below w.heap.size w ((w.alloc (.cells #[.int .i64 k, .string s, .int .i64 a, .int .i64 b, .slice p1 n cap1, .int .i64 d, .bool c] 44)).alloc (.cells #[.int .i64 k, .string s, .int .i64 a, .int .i64 b, .slice p2 n cap2, .int .i64 d, .bool c] 44)) := ((Below.refl _ w).alloc (Nat.le_refl _) _).alloc (by simp) _
  have HB0 := hid hb
  have r1 : ((w.alloc (.cells #[.int .i64 k, .string s, .int .i64 a, .int .i64 b, .slice p1 n cap1, .int .i64 d, .bool c] 44)).alloc (.cells #[.int .i64 k, .string s, .int .i64 a, .int .i64 b, .slice p2 n cap2, .int .i64 d, .bool c] 44)).cell? ⟨w.heap.size, 4, none⟩ = some (.slice p1 n cap1) := by simp
  have r2 : ((w.alloc (.cells #[.int .i64 k, .string s, .int .i64 a, .int .i64 b, .slice p1 n cap1, .int .i64 d, .bool c] 44)).alloc (.cells #[.int .i64 k, .string s, .int .i64 a, .int .i64 b, .slice p2 n cap2, .int .i64 d, .bool c] 44)).cell? ⟨w.heap.size + 1, 4, none⟩ = some (.slice p2 n cap2) := by simp
  have R1 := hid r1
  have R2 := hid r2
  have hsz : ((w.alloc (.cells #[.int .i64 k, .string s, .int .i64 a, .int .i64 b, .slice p1 n cap1, .int .i64 d, .bool c] 44)).alloc (.cells #[.int .i64 k, .string s, .int .i64 a, .int .i64 b, .slice p2 n cap2, .int .i64 d, .bool c] 44)).heap.size = w.heap.size + 2 := by simp
  have HSZ := hid hsz
  clear hp1 hp2 hn hl hb r1 r2 hsz
  go_enter Try.func22, Try.ntmps22
  go_wp2
  go_loopw [5] (fun i wr => ∃ j : Nat, j ≤ n ∧ i = .int .i64 (j : Nat) ∧ Below (w.heap.size + 2) ((w.alloc (.cells #[.int .i64 k, .string s, .int .i64 a, .int .i64 b, .slice p1 n cap1, .int .i64 d, .bool c] 44)).alloc (.cells #[.int .i64 k, .string s, .int .i64 a, .int .i64 b, .slice p2 n cap2, .int .i64 d, .bool c] 44)) wr) (fun i _ => n + 1 - (intOf i).toNat)
  case atStart => exact ⟨0, by omega, rfl, Below.refl _ _⟩
  case round =>
    obtain ⟨j, hj, rfl, hB⟩ := hrel
    have HB := hid hB
    have x4 := (hB.cell (p := ⟨w.heap.size, 4, none⟩) (by show w.heap.size < _; omega)).trans R1.out
    have y4 := (hB.cell (p := ⟨w.heap.size + 1, 4, none⟩) (by show w.heap.size + 1 < _; omega)).trans R2.out
    by_cases hlt : j < n
    · have hkd : j < l.length := by have := HN.out; omega
      obtain ⟨g1, off1, hg1, hx1⟩ := HP1.out (by omega)
      obtain ⟨g2, off2, hg2, hx2⟩ := HP2.out (by omega)
      obtain ⟨hgs1, a0, a1, a2⟩ := hx1 j hkd
      obtain ⟨hgs2, b0, b1, b2⟩ := hx2 j hkd
      subst hg1 hg2
      obtain ⟨v, hv⟩ : ∃ v, l[j] = v := ⟨_, rfl⟩
      rw [hv] at a0 a1 a2 b0 b1 b2
      have x0 := (hB.cell (p := ⟨g1, off1 + j * 3, none⟩) (by show g1 < _; omega)).trans ((HB0.out.cell (p := ⟨g1, off1 + j * 3, none⟩) hgs1).trans a0)
      have x1 := (hB.cell (p := ⟨g1, off1 + j * 3 + 1, none⟩) (by show g1 < _; omega)).trans ((HB0.out.cell (p := ⟨g1, off1 + j * 3 + 1, none⟩) hgs1).trans a1)
      have x2 := (hB.cell (p := ⟨g1, off1 + j * 3 + 2, none⟩) (by show g1 < _; omega)).trans ((HB0.out.cell (p := ⟨g1, off1 + j * 3 + 2, none⟩) hgs1).trans a2)
      have y0 := (hB.cell (p := ⟨g2, off2 + j * 3, none⟩) (by show g2 < _; omega)).trans ((HB0.out.cell (p := ⟨g2, off2 + j * 3, none⟩) hgs2).trans b0)
      have y1 := (hB.cell (p := ⟨g2, off2 + j * 3 + 1, none⟩) (by show g2 < _; omega)).trans ((HB0.out.cell (p := ⟨g2, off2 + j * 3 + 1, none⟩) hgs2).trans b1)
      have y2 := (hB.cell (p := ⟨g2, off2 + j * 3 + 2, none⟩) (by show g2 < _; omega)).trans ((HB0.out.cell (p := ⟨g2, off2 + j * 3 + 2, none⟩) hgs2).trans b2)
      have i1 : (0 : Int) ≤ (j : Int) := by omega
      have i2 : (j : Int) < (n : Int) := by omega
      clear a0 a1 a2 b0 b1 b2 hx1 hx2 hv hkd hB
      go_wp2_with fail
      go_quiet (fail)
      go_wp2_with fail
      go_roundw
      case rel => exact ⟨j + 1, by omega, by go_num, by first | exact HB.out | exact HB.out.trans ⟨rfl, rfl, rfl, Nat.le_refl _, fun _ _ => rfl⟩⟩
      case measure => simp [intOf]; omega
    · have i2 : ¬ (j : Int) < (n : Int) := by omega
      clear hB
      go_wp2
      go_ret
      exact ⟨ret_bool (by simp), below_trans HB0.out HB.out (by omega)⟩
end Go.Proofs.Ytepgkemnpcadiab
