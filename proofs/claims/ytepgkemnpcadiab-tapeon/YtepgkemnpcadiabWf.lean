/-
  Flags, signed numbers, texts and values behind a row of bytes.
-/
import Derived.Test.YtepgkemnpcadiabWe
namespace Go.Proofs.Ytepgkemnpcadiab
open Go.ChangeShapes Go.WideShapes Go.ChangeAt Go.RowKit Go.Maps
set_option linter.unusedVariables false
set_option linter.unusedSimpArgs false
set_option maxRecDepth 20000
def flg (c : Bool) : UInt8 := if c = true then 1 else 0
set_option maxHeartbeats 4000000 in
theorem putFlag_any (B : Nat) (v : Value) (l : List UInt8) (c : Bool) (w : World) (h : BO w B v l) (hl : l.length < 100000000) (hB : B ≤ w.heap.size) :
    Calls Try.prog 31 #[v, .bool c] w fun e w' => ∃ v', e = .returned v' ∧ BO w' B v' (l ++ [flg c]) ∧ Grw w v w' v' := by
  have HL : Hid (l.length < 140000000000000) := by show l.length < 140000000000000; omega
  have HH := hid h
  have HBB := hid hB
  obtain ⟨pu, nu, cu, hsh⟩ := h.shape3
  subst hsh
  clear hl h hB
  cases c
  · go_enter Try.func31, Try.ntmps31
    go_wp2_with (at_builtin; go_loud (refine wp_push (by rfl) _ _ (by rfl) w B _ l (by rfl) HH.out (by rfl) (by first | rfl | simp) 0 _ (by rfl) HL.out HBB.out ?_); intro v' w3 hown hbl; have HO := hid hown; have HB3 := hid hbl; obtain ⟨pv, nv, cv, hvv⟩ := hown.shape3; subst hvv; clear hown hbl)
    go_ret
    exact ⟨_, rfl, HO.out, HB3.out⟩
  · go_enter Try.func31, Try.ntmps31
    go_wp2_with (at_builtin; go_loud (refine wp_push (by rfl) _ _ (by rfl) w B _ l (by rfl) HH.out (by rfl) (by first | rfl | simp) 1 _ (by rfl) HL.out HBB.out ?_); intro v' w3 hown hbl; have HO := hid hown; have HB3 := hid hbl; obtain ⟨pv, nv, cv, hvv⟩ := hown.shape3; subst hvv; clear hown hbl)
    go_ret
    exact ⟨_, rfl, HO.out, HB3.out⟩
theorem fld_lt {z : Int} (h1 : -4000000000000000000 ≤ z) (h2 : z ≤ 4000000000000000000) : fld z < 9223372036854775808 := by
  unfold fld
  split <;> omega
set_option maxHeartbeats 4000000 in
theorem putSigned_any (B : Nat) (v : Value) (l : List UInt8) (z : Int) (w : World) (h : BO w B v l) (hl : l.length < 100000000) (h1 : -4000000000000000000 ≤ z) (h2 : z ≤ 4000000000000000000) (hB : B ≤ w.heap.size) :
    Calls Try.prog 55 #[v, .int .i64 z] w fun e w' => ∃ v', e = .returned v' ∧ BO w' B v' (l ++ lng (fld z)) ∧ Grw w v w' v' := by
  have HC := hid (fun W (hw : BO W B v l) (hb : B ≤ W.heap.size) => putLong_any B v l (fld z) W hw hl (fld_lt h1 h2) hb)
  have HH := hid h
  have HBB := hid hB
  obtain ⟨pu, nu, cu, hsh⟩ := h.shape3
  subst hsh
  by_cases hz : z < 0
  · have k1 : wrap64 (-1 - z) = -1 - z := by unfold wrap64; omega
    have k2 : wrap64 (2 * (-1 - z)) = 2 * (-1 - z) := by unfold wrap64; omega
    have k3 : wrap64 (2 * (-1 - z) + 1) = 2 * (-1 - z) + 1 := by unfold wrap64; omega
    have HF : Hid (((fld z : Nat) : Int) = 2 * (-1 - z) + 1) := by show ((fld z : Nat) : Int) = _; unfold fld; rw [if_pos hz]; omega
    clear hl h1 h2 h hB
    go_enter Try.func55, Try.ntmps55
    go_wp2_with fail
    have hc := HC.out _ HH.out HBB.out
    rw [HF.out] at hc
    refine hc.mono ?_
    rintro e w2 ⟨v', rfl, ho, hg⟩
    have HO := hid ho
    have HG := hid hg
    obtain ⟨pv, nv, cv, hvv⟩ := ho.shape3
    subst hvv
    clear ho hg hc
    go_wp2
    go_ret
    exact ⟨_, rfl, HO.out, HG.out⟩
  · have k2 : wrap64 (2 * z) = 2 * z := by unfold wrap64; omega
    have HF : Hid (((fld z : Nat) : Int) = 2 * z) := by show ((fld z : Nat) : Int) = _; unfold fld; rw [if_neg hz]; omega
    clear hl h1 h2 h hB
    go_enter Try.func55, Try.ntmps55
    go_wp2_with fail
    have hc := HC.out _ HH.out HBB.out
    rw [HF.out] at hc
    refine hc.mono ?_
    rintro e w2 ⟨v', rfl, ho, hg⟩
    have HO := hid ho
    have HG := hid hg
    obtain ⟨pv, nv, cv, hvv⟩ := ho.shape3
    subst hvv
    clear ho hg hc
    go_wp2
    go_ret
    exact ⟨_, rfl, HO.out, HG.out⟩
set_option maxHeartbeats 4000000 in
theorem putText_any (B : Nat) (v : Value) (l : List UInt8) (s : ByteArray) (w : World) (h : BO w B v l) (hl : l.length < 100000000) (hs : s.size < 256) (hB : B ≤ w.heap.size) :
    Calls Try.prog 34 #[v, .string s] w fun e w' => ∃ v', e = .returned v' ∧ BO w' B v' (l ++ txb s) ∧ Below B w w' := by
  have HL : Hid (l.length < 140000000000000) := by show l.length < 140000000000000; omega
  have HL2 : Hid ((l ++ [UInt8.ofNat s.size]).length + s.size < 140000000000000) := by show (l ++ [UInt8.ofNat s.size]).length + s.size < 140000000000000; simp; omega
  have HH := hid h
  have HBB := hid hB
  have hw := w8 s.size hs
  have HU := hid (u8_of s.size hs)
  obtain ⟨pu, nu, cu, hsh⟩ := h.shape3
  subst hsh
  clear hl h hB hs
  go_enter Try.func34, Try.ntmps34
  go_wp2_with (first
    | (at_builtin; refine wp_push (by rfl) _ _ (by rfl) w B _ l (by rfl) HH.out (by rfl) (by first | rfl | simp) (UInt8.ofNat s.size) _ HU.out HL.out HBB.out ?_; intro v' w3 hown hbl; have HO := hid hown; have HG := hid hbl; have HB3 := hid (hbl.bel HH.out HBB.out); obtain ⟨pv, nv, cv, hvv⟩ := hown.shape3; subst hvv; clear hown hbl)
    | (at_builtin; go_loud (refine wp_pushS (by rfl) _ _ (by rfl) _ B _ _ (by rfl) HO.out s (by rfl) HL2.out (Nat.le_trans HBB.out HB3.out.size) ?_); intro v' w4 hown hbl; have HO4 := hid hown; have HB4 := hid hbl; obtain ⟨pv4, nv4, cv4, hvv⟩ := hown.shape3; subst hvv; clear hown hbl))
  go_ret
  exact ⟨_, rfl, by have := HO4.out; rw [List.append_assoc] at this; exact this, HB3.out.trans HB4.out⟩
end Go.Proofs.Ytepgkemnpcadiab
