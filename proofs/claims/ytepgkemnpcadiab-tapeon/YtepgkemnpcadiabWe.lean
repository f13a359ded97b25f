/-
  Numbers and texts behind a row of bytes: the program's putLong, putText and their like.
-/
import Derived.Test.YtepgkemnpcadiabWd
namespace Go.Proofs.Ytepgkemnpcadiab
open Go.ChangeShapes Go.WideShapes Go.ChangeAt Go.RowKit Go.Maps
set_option linter.unusedVariables false
set_option linter.unusedSimpArgs false
set_option maxRecDepth 20000
theorem u8_of (n : Nat) (h : n < 256) : (n : Int) = ((UInt8.ofNat n).toNat : Int) := by
  rw [UInt8.toNat_ofNat_of_lt' (by simpa using h)]
theorem w8 (n : Nat) (h : n < 256) : IntKind.u8.wrap (n : Int) = (n : Int) := by rw [u8w n n rfl h, ← u8_of n h]
theorem meas128 {m : Nat} (h : ¬ m < 128) : (intOf (.int .i64 ((m : Int) / 128))).toNat < (intOf (.int .i64 (m : Int))).toNat := by
  show ((m : Int) / 128).toNat < (m : Int).toNat
  omega
set_option maxHeartbeats 4000000 in
theorem putLong_any (B : Nat) (v : Value) (l : List UInt8) (n : Nat) (w : World) (h : BO w B v l) (hl : l.length < 100000000) (hn : n < 9223372036854775808) (hB : B ≤ w.heap.size) :
    Calls Try.prog 32 #[v, .int .i64 n] w fun e w' => ∃ v', e = .returned v' ∧ BO w' B v' (l ++ lng n) ∧ Grw w v w' v' := by
  have HL := hid hl
  have HN := hid hn
  have HH := hid h
  have HBB := hid hB
  have H10 := hid (lng_10 hn)
  obtain ⟨pu, nu, cu, hsh⟩ := h.shape3
  subst hsh
  clear hl hn h hB
  go_enter Try.func32, Try.ntmps32
  go_wp2
  go_loopw [0, 1] (fun v i wr => ∃ (m : Nat) (l2 : List UInt8), i = .int .i64 m ∧ m ≤ n ∧ l ++ lng n = l2 ++ lng m ∧ BO wr B v l2 ∧ Grw w (.slice pu nu cu) wr v) (fun _ i _ => (intOf i).toNat)
  case atStart => exact ⟨n, l, rfl, Nat.le_refl _, rfl, HH.out, Grw.refl _ _⟩
  case round =>
    obtain ⟨m, l2, rfl, hmn, hq, hrow, hb⟩ := hrel
    obtain ⟨p2, q2, c2, hsh⟩ := hrow.shape3
    subst hsh
    have HROW := hid hrow
    have HQ := hid hq
    have HBW := hid hb
    have HSZ : Hid (l2.length < 140000000000000) := by
      have := congrArg List.length hq
      simp only [List.length_append] at this
      have h1 := H10.out
      have h2 := HL.out
      show l2.length < 140000000000000
      omega
    have HM : Hid (m < 9223372036854775808) := by have := HN.out; show m < 9223372036854775808; omega
    have HBR : Hid (B ≤ wr.heap.size) := Nat.le_trans HBB.out hb.1.size
    have HMN := hid hmn
    clear hrow hq hb hmn
    by_cases hg : m < 128
    · have hgi : ¬ (128 : Int) ≤ m := by omega
      have hw := w8 m (by omega)
      have HU := hid (u8_of m (by omega))
      have HLM := hid (lng_lt hg)
      go_wp2_with (at_builtin; go_loud (refine wp_push (by rfl) _ _ (by rfl) wr B _ l2 (by rfl) HROW.out (by rfl) (by first | rfl | simp) (UInt8.ofNat m) _ HU.out HSZ.out HBR.out ?_); intro v' w3 hown hbl; have HO := hid hown; have HB3 := hid hbl; obtain ⟨pv, nv, cv, hvv⟩ := hown.shape3; subst hvv; clear hown hbl)
      go_ret
      exact ⟨_, rfl, by rw [HQ.out, HLM.out]; exact HO.out, HBW.out.trans HB3.out⟩
    · have hgi : (128 : Int) ≤ m := by omega
      have hgn : ¬ (m : Int) < 128 := by omega
      have HU : Hid ((m : Int) % 128 + 128 = ((UInt8.ofNat (128 + m % 128)).toNat : Int)) := by have := u8_of (128 + m % 128) (by omega); show (m : Int) % 128 + 128 = _; omega
      have hd2 : wrap64 ((m : Int) / 128) = (m : Int) / 128 := by have := HM.out; unfold wrap64; omega
      have HLM := hid (lng_ge hg)
      go_wp2_with (at_builtin; go_loud (refine wp_push (by rfl) _ _ (by rfl) wr B _ l2 (by rfl) HROW.out (by rfl) (by first | rfl | simp) (UInt8.ofNat (128 + m % 128)) _ HU.out HSZ.out HBR.out ?_); intro v' w3 hown hbl; have HO := hid hown; have HB3 := hid hbl; obtain ⟨pv, nv, cv, hvv⟩ := hown.shape3; subst hvv; clear hown hbl)
      go_roundw
      case rel => exact ⟨m / 128, l2 ++ [UInt8.ofNat (128 + m % 128)], by go_num, by have := HMN.out; omega, by rw [HQ.out, HLM.out]; simp, HO.out, HBW.out.trans HB3.out⟩
      case measure => rw [hd2]; exact meas128 hg
end Go.Proofs.Ytepgkemnpcadiab
