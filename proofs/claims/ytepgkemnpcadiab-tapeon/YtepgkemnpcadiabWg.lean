/-
  Values behind a row of bytes.
-/
import Derived.Test.YtepgkemnpcadiabWf
namespace Go.Proofs.Ytepgkemnpcadiab
open Go.ChangeShapes Go.WideShapes Go.ChangeAt Go.RowKit Go.Maps
set_option linter.unusedVariables false
set_option linter.unusedSimpArgs false
set_option maxRecDepth 20000
theorem BO.ne {w : World} {B : Nat} {v : Value} {l : List UInt8} (h : BO w B v l) {g : Nat} (hg : w.heap.size ≤ g) : some g ≠ v.ownBlock := fun e => by
  have := (World.ownsRow.lt h g e.symm).2
  omega
theorem vchk_zero {v : Vl} (h : vchk v = 0) : (v.k = 1 ∨ v.k = 2) ∧ -1125899906842624 ≤ v.n ∧ v.n ≤ 1125899906842624 ∧ v.s.size ≤ 20 ∧ (v.k = 1 → v.s.toList = []) ∧ (v.k = 2 → v.n = 0) := by
  unfold vchk at h
  by_cases c1 : v.k ≠ 1 ∧ v.k ≠ 2
  · rw [if_pos c1] at h; simp at h
  rw [if_neg c1] at h
  by_cases c2 : (v.k = 1 ∧ v.s.toList ≠ []) ∨ (v.k = 2 ∧ v.n ≠ 0)
  · rw [if_pos c2] at h; simp at h
  rw [if_neg c2] at h
  by_cases c3 : 20 < v.s.size
  · rw [if_pos c3] at h; simp at h
  rw [if_neg c3] at h
  by_cases c4 : v.n < -1125899906842624 ∨ 1125899906842624 < v.n
  · rw [if_pos c4] at h; simp at h
  refine ⟨by omega, by omega, by omega, by omega, fun e => ?_, fun e => ?_⟩
  · by_cases c : v.s.toList = []
    · exact c
    · exact absurd (Or.inl ⟨e, c⟩) c2
  · by_cases c : v.n = 0
    · exact c
    · exact absurd (Or.inr ⟨e, c⟩) c2
set_option maxHeartbeats 4000000 in
theorem putValue_any (B : Nat) (u : Value) (l : List UInt8) (v : Vl) (w : World) (h : BO w B u l) (hl : l.length < 90000000) (hB : B ≤ w.heap.size) (hv : vchk v = 0) :
    Calls Try.prog 43 #[u, vV v] w fun e w' => ∃ v', e = .returned v' ∧ BO w' B v' (l ++ evb v) ∧ Below B w w' := by
  obtain ⟨hk, hn1, hn2, hs, _, _⟩ := vchk_zero hv
  have HL : Hid (l.length < 140000000000000) := by show l.length < 140000000000000; omega
  have HBB := hid hB
  obtain ⟨pu, nu, cu, hsh⟩ := h.shape3
  subst hsh
  clear hv
  obtain ⟨k, n, s⟩ := v
  simp only at hk hn1 hn2 hs
  unfold vV
  rcases hk with hk | hk
  · subst hk
    have HC := hid (fun W V (hw : BO W B V (l ++ [UInt8.ofNat 1])) (hb : B ≤ W.heap.size) => putSigned_any B V (l ++ [UInt8.ofNat 1]) n W hw (by simp; omega) (by omega) (by omega) hb)
    have HE : Hid (evb ⟨1, n, s⟩ = UInt8.ofNat 1 :: lng (fld n)) := rfl
    have HBX : Hid (BO (w.alloc (.cells #[.int .i64 1, .int .i64 n, .string s] 73)) B (.slice pu nu cu) l) := h.below ((Below.refl _ w).alloc (Nat.le_refl _) _)
    have HNE := hid (h.ne (Nat.le_refl w.heap.size))
    have HBB2 : Hid (B ≤ (w.alloc (.cells #[.int .i64 1, .int .i64 n, .string s] 73)).heap.size) := by show B ≤ _; simp; omega
    clear h hB hl
    go_enter Try.func43, Try.ntmps43
    go_wp2_with (at_builtin; go_loud (refine wp_push (by rfl) _ _ (by rfl) (w.alloc (.cells #[.int .i64 1, .int .i64 n, .string s] 73)) B _ l (by rfl) HBX.out (by rfl) (by first | rfl | simp) (UInt8.ofNat 1) _ (by rfl) HL.out HBB2.out ?_); intro v3 w3 hown hbl; have HO := hid hown; have HG := hid hbl; obtain ⟨pv3, nv3, cv3, hvv⟩ := hown.shape3; subst hvv; clear hown hbl; go_loud (have d0 := HG.out.cell (cell_new (X := w) (cs := #[.int .i64 1, .int .i64 n, .string s]) (t := 73) (j := 0) rfl rfl) HNE.out); have d1 := HG.out.cell (cell_new (X := w) (cs := #[.int .i64 1, .int .i64 n, .string s]) (t := 73) (j := 1) rfl rfl) HNE.out; have d2 := HG.out.cell (cell_new (X := w) (cs := #[.int .i64 1, .int .i64 n, .string s]) (t := 73) (j := 2) rfl rfl) HNE.out)
    refine (HC.out _ _ HO.out (Nat.le_trans HBB.out (Nat.le_trans (by simp) HG.out.1.size))).mono ?_
    rintro e w4 ⟨v4, rfl, ho4, hg4⟩
    have HO4 := hid ho4
    have HB4 : Hid (Below B w w4) := (((Below.refl B w).alloc HBB.out _).trans (HG.out.bel HBX.out HBB2.out)).trans (hg4.bel HO.out (Nat.le_trans HBB2.out HG.out.1.size))
    obtain ⟨p4, n4, c4, hvv⟩ := ho4.shape3
    subst hvv
    clear ho4 hg4 d0 d1 d2
    go_wp2
    go_ret
    exact ⟨_, rfl, by rw [HE.out]; have := HO4.out; rw [List.append_assoc] at this; exact this, HB4.out⟩
  · subst hk
    have HC := hid (fun W V (hw : BO W B V (l ++ [UInt8.ofNat 2])) (hb : B ≤ W.heap.size) => putText_any B V (l ++ [UInt8.ofNat 2]) s W hw (by simp; omega) (by omega) hb)
    have HE : Hid (evb ⟨2, n, s⟩ = UInt8.ofNat 2 :: txb s) := rfl
    have HBX : Hid (BO (w.alloc (.cells #[.int .i64 2, .int .i64 n, .string s] 73)) B (.slice pu nu cu) l) := h.below ((Below.refl _ w).alloc (Nat.le_refl _) _)
    have HNE := hid (h.ne (Nat.le_refl w.heap.size))
    have HBB2 : Hid (B ≤ (w.alloc (.cells #[.int .i64 2, .int .i64 n, .string s] 73)).heap.size) := by show B ≤ _; simp; omega
    clear h hB hl
    go_enter Try.func43, Try.ntmps43
    go_wp2_with (at_builtin; go_loud (refine wp_push (by rfl) _ _ (by rfl) (w.alloc (.cells #[.int .i64 2, .int .i64 n, .string s] 73)) B _ l (by rfl) HBX.out (by rfl) (by first | rfl | simp) (UInt8.ofNat 2) _ (by rfl) HL.out HBB2.out ?_); intro v3 w3 hown hbl; have HO := hid hown; have HG := hid hbl; obtain ⟨pv3, nv3, cv3, hvv⟩ := hown.shape3; subst hvv; clear hown hbl; go_loud (have d0 := HG.out.cell (cell_new (X := w) (cs := #[.int .i64 2, .int .i64 n, .string s]) (t := 73) (j := 0) rfl rfl) HNE.out); have d1 := HG.out.cell (cell_new (X := w) (cs := #[.int .i64 2, .int .i64 n, .string s]) (t := 73) (j := 1) rfl rfl) HNE.out; have d2 := HG.out.cell (cell_new (X := w) (cs := #[.int .i64 2, .int .i64 n, .string s]) (t := 73) (j := 2) rfl rfl) HNE.out)
    refine (HC.out _ _ HO.out (Nat.le_trans HBB.out (Nat.le_trans (by simp) HG.out.1.size))).mono ?_
    rintro e w4 ⟨v4, rfl, ho4, hg4⟩
    have HO4 := hid ho4
    have HB4 : Hid (Below B w w4) := (((Below.refl B w).alloc HBB.out _).trans (HG.out.bel HBX.out HBB2.out)).trans hg4
    obtain ⟨p4, n4, c4, hvv⟩ := ho4.shape3
    subst hvv
    clear ho4 hg4 d0 d1 d2
    go_wp2
    go_ret
    exact ⟨_, rfl, by rw [HE.out]; have := HO4.out; rw [List.append_assoc] at this; exact this, HB4.out⟩
end Go.Proofs.Ytepgkemnpcadiab
