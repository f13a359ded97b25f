/-
  Bytes by the document: joined, sevens, folded, textBytes.
-/
import Derived.Test.YtepgkemnpcadiaaWe
namespace Go.Proofs.Ytepgkemnpcadiaa
open Go.ChangeShapes Go.WideShapes Go.ChangeAt Go.RowKit Go.Maps
set_option linter.unusedVariables false
set_option linter.unusedSimpArgs false
set_option maxRecDepth 20000
/-- Bytes that are read, whatever the room behind them. -/
def BR (w : World) (v : Value) (l : List UInt8) : Prop :=
  ∃ p cap, v = .slice p l.length cap ∧ (0 < l.length → ∃ g off, p = some ⟨g, off, none⟩ ∧ ∀ j (hj : j < l.length), g < w.heap.size ∧ w.cell? ⟨g, off + j, none⟩ = some (.int .u8 (l[j].toNat : Int)))
theorem BA.br {w : World} {v : Value} {l : List UInt8} (h : BA w v l) : BR w v l := by
  obtain ⟨p, cap, h1, _, _, h2⟩ := h
  exact ⟨p, cap, h1, h2⟩
theorem BO.br {w : World} {B : Nat} {v : Value} {l : List UInt8} (h : BO w B v l) : BR w v l := h.ba.br
theorem BR.below {w w' : World} {v : Value} {l : List UInt8} (h : BR w v l) (b : Below w.heap.size w w') : BR w' v l := by
  obtain ⟨p, cap, h1, h4⟩ := h
  refine ⟨p, cap, h1, fun c => ?_⟩
  obtain ⟨g, off, hp, hc⟩ := h4 c
  refine ⟨g, off, hp, fun j hj => ?_⟩
  obtain ⟨q1, q2⟩ := hc j hj
  exact ⟨Nat.lt_of_lt_of_le q1 b.size, (b.cell (p := ⟨g, off + j, none⟩) q1).trans q2⟩
theorem BR.shape {w : World} {v : Value} {l : List UInt8} (h : BR w v l) : ∃ p cap, v = .slice p l.length cap := by
  obtain ⟨p, cap, h, _⟩ := h
  exact ⟨p, cap, h⟩
theorem take_snoc {l : List UInt8} {k : Nat} (h : k < l.length) : l.take (k + 1) = l.take k ++ [l[k]] := List.take_succ_eq_append_getElem h
set_option maxHeartbeats 4000000 in
theorem joined_any (a b : Value) (la lb : List UInt8) (w : World) (ha : BR w a la) (hb : BR w b lb) (hla : la.length < 50000000) (hlb : lb.length < 50000000) :
    Calls Try.prog 35 #[a, b] w fun e w' => ∃ v', e = .returned v' ∧ BO w' w.heap.size v' (la ++ lb) ∧ Below w.heap.size w w' := by
  have HA := hid ha
  have HB := hid hb
  obtain ⟨pa, ca, hsa⟩ := ha.shape
  obtain ⟨pb, cb, hsb⟩ := hb.shape
  subst hsa hsb
  obtain ⟨na, hna⟩ : ∃ n, la.length = n := ⟨_, rfl⟩
  obtain ⟨nb, hnb⟩ : ∃ n, lb.length = n := ⟨_, rfl⟩
  have HNA := hid hna
  have HNB := hid hnb
  have hma : (na : Int) ≤ 9223372036854775807 := by omega
  have hmb : (nb : Int) ≤ 9223372036854775807 := by omega
  have HSA : Hid (na < 50000000) := by show na < _; omega
  have HSB : Hid (nb < 50000000) := by show nb < _; omega
  rw [hna, hnb]
  clear ha hb hla hlb hna hnb
  go_enter Try.func35, Try.ntmps35
  go_wp2
  go_loopw [5, 6] (fun v i wr => ∃ k : Nat, k ≤ na ∧ i = .int .i64 (k : Nat) ∧ BO wr w.heap.size v (la.take k) ∧ Below w.heap.size w wr) (fun _ i _ => na + 1 - (intOf i).toNat)
  case atStart => exact ⟨0, by omega, rfl, BO.nil _ _, Below.refl _ _⟩
  case round =>
    obtain ⟨k, hk, rfl, hrow, hbl⟩ := hrel
    obtain ⟨p2, n2, c2, hsh⟩ := hrow.shape3
    subst hsh
    have HROW := hid hrow
    have HBW := hid hbl
    have HBR : Hid (w.heap.size ≤ wr.heap.size) := hbl.size
    by_cases hlt : k < na
    · have hkd : k < la.length := by have := HNA.out; omega
      obtain ⟨p3, cap3, hsh3, hp3⟩ := HA.out
      obtain ⟨g, off, hg, hc⟩ := hp3 (by omega)
      obtain ⟨hgs, b0⟩ := hc k hkd
      rw [HNA.out] at hsh3
      cases hsh3
      subst hg
      have b1 : wr.cell? ⟨g, off + k, none⟩ = some (.int .u8 (la[k].toNat : Int)) := (hbl.cell (p := ⟨g, off + k, none⟩) hgs).trans b0
      have HSN := hid (take_snoc hkd)
      have i1 : (0 : Int) ≤ (k : Int) := by omega
      have i2 : (k : Int) < (na : Int) := by omega
      have HLK : Hid ((la.take k).length < 140000000000000) := by show _ < _; rw [List.length_take]; have := HSA.out; omega
      obtain ⟨q, hq⟩ : ∃ q, la[k] = q := ⟨_, rfl⟩
      rw [hq] at b1 HSN
      clear hrow hbl hkd hp3 hc b0 hgs hq
      go_wp2_with (at_builtin; go_loud (refine wp_push (by rfl) _ _ (by rfl) wr w.heap.size _ (la.take k) (by rfl) HROW.out (by rfl) (by first | rfl | simp) q _ (by rfl) HLK.out HBR.out ?_); intro v6 w6 hown hbl; have HO6 := hid hown; have HB6 := hid (HBW.out.trans (hbl.bel HROW.out HBR.out)); obtain ⟨pv6, nv6, cv6, hvv⟩ := hown.shape3; subst hvv; clear hown hbl)
      go_roundw
      case rel => exact ⟨k + 1, by omega, by go_num, by rw [HSN.out]; exact HO6.out, HB6.out⟩
      case measure => simp [intOf]; omega
    · obtain rfl : k = na := by omega
      have HR2 : Hid (BO wr w.heap.size (.slice p2 n2 c2) la) := by have := hrow; rw [← HNA.out, List.take_length] at this; exact this
      clear hrow hbl HROW
      go_wp2
      go_loopw [5, 7] (fun v i wr => ∃ k : Nat, k ≤ nb ∧ i = .int .i64 (k : Nat) ∧ BO wr w.heap.size v (la ++ lb.take k) ∧ Below w.heap.size w wr) (fun _ i _ => nb + 1 - (intOf i).toNat)
      case atStart => exact ⟨0, by omega, rfl, by have := HR2.out; simpa using this, HBW.out⟩
      case round =>
        obtain ⟨j, hj, rfl, hrow, hbl⟩ := hrel
        obtain ⟨p5, n5, c5, hsh⟩ := hrow.shape3
        subst hsh
        have HROW2 := hid hrow
        have HBW2 := hid hbl
        rename_i wr2
        have HBR2 := hid hbl.size
        by_cases hlt2 : j < nb
        · have hkd : j < lb.length := by have := HNB.out; omega
          obtain ⟨p3, cap3, hsh3, hp3⟩ := HB.out
          obtain ⟨g, off, hg, hc⟩ := hp3 (by omega)
          obtain ⟨hgs, b0⟩ := hc j hkd
          rw [HNB.out] at hsh3
          cases hsh3
          subst hg
          have b1 := (hbl.cell (p := ⟨g, off + j, none⟩) hgs).trans b0
          have HSN := hid (take_snoc hkd)
          have i1 : (0 : Int) ≤ (j : Int) := by omega
          have i2 : (j : Int) < (nb : Int) := by omega
          have HLK : Hid ((la ++ lb.take j).length < 140000000000000) := by show _ < _; rw [List.length_append, List.length_take]; have := HSB.out; have := HSA.out; have := HNA.out; omega
          obtain ⟨q, hq⟩ : ∃ q, lb[j] = q := ⟨_, rfl⟩
          rw [hq] at b1 HSN
          clear hrow hbl hkd hp3 hc b0 hgs hq
          go_wp2_with (at_builtin; go_loud (refine wp_push (by rfl) _ _ (by rfl) _ w.heap.size _ (la ++ lb.take j) (by rfl) HROW2.out (by rfl) (by first | rfl | simp) q _ (by rfl) HLK.out HBR2.out ?_); intro v6 w6 hown hbl; have HO6 := hid hown; have HB6 := hid (HBW2.out.trans (hbl.bel HROW2.out HBR2.out)); obtain ⟨pv6, nv6, cv6, hvv⟩ := hown.shape3; subst hvv; clear hown hbl)
          go_roundw
          case rel => exact ⟨j + 1, by omega, by go_num, by rw [HSN.out, ← List.append_assoc]; exact HO6.out, HB6.out⟩
          case measure => simp [intOf]; omega
        · obtain rfl : j = nb := by omega
          have HR3 := hrow
          rw [← HNB.out, List.take_length] at HR3
          have HR4 := hid HR3
          clear hrow hbl HR3 HROW2
          go_wp2
          go_ret
          exact ⟨_, rfl, HR4.out, HBW2.out⟩
theorem folded_any (z : Int) (w : World) (h1 : -4000000000000000000 ≤ z) (h2 : z ≤ 4000000000000000000) :
    Calls Try.prog 74 #[.int .i64 z] w fun e w' => e = .returned (.int .i64 ((fld z : Nat) : Int)) ∧ w' = w := by
  by_cases hz : z < 0
  · have k2 : wrap64 (-2 * z) = -2 * z := by unfold wrap64; omega
    have k3 : wrap64 (-2 * z - 1) = -2 * z - 1 := by unfold wrap64; omega
    have HF : Hid (((fld z : Nat) : Int) = -2 * z - 1) := by show ((fld z : Nat) : Int) = _; unfold fld; rw [if_pos hz]; omega
    clear h1 h2
    go_enter Try.func74, Try.ntmps74
    go_wp2
    go_ret
    exact ⟨ret_int (by rw [HF.out]; first | rfl | exact k3), rfl⟩
  · have k2 : wrap64 (2 * z) = 2 * z := by unfold wrap64; omega
    have HF : Hid (((fld z : Nat) : Int) = 2 * z) := by show ((fld z : Nat) : Int) = _; unfold fld; rw [if_neg hz]; omega
    clear h1 h2
    go_enter Try.func74, Try.ntmps74
    go_wp2
    go_ret
    exact ⟨ret_int (by rw [HF.out]), rfl⟩
end Go.Proofs.Ytepgkemnpcadiaa
