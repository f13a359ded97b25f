/-
  Bytes by the document: sevens, textBytes.
-/
import Derived.Test.YtepgkemnpcadiaaWj
namespace Go.Proofs.Ytepgkemnpcadiaa
open Go.ChangeShapes Go.WideShapes Go.ChangeAt Go.RowKit Go.Maps
set_option linter.unusedVariables false
set_option linter.unusedSimpArgs false
set_option maxRecDepth 20000
set_option maxHeartbeats 4000000 in
theorem sevens_any : ∀ (n : Nat) (w : World), n < 9223372036854775808 →
    Calls Try.prog 72 #[.int .i64 n] w fun e w' => ∃ v', e = .returned v' ∧ BO w' w.heap.size v' (lng n) ∧ Below w.heap.size w w' := by
  intro n
  induction n using Nat.strongRecOn with
  | _ n ih =>
    intro w hn
    by_cases hg : n < 128
    · have hgi : (n : Int) < 128 := by omega
      have hw := w8 n (by omega)
      have HU := hid (u8_of n (by omega))
      have HLM := hid (lng_lt hg)
      clear ih hn
      go_enter Try.func72, Try.ntmps72
      go_wp2
      go_ret
      exact ⟨_, rfl, by rw [HLM.out]; exact BO.one w _ _ _ HU.out (Nat.le_refl _), (Below.refl _ w).alloc (Nat.le_refl _) _⟩
    · have hgi : ¬ (n : Int) < 128 := by omega
      have HU : Hid ((128 : Int) + (n : Int) % 128 = ((UInt8.ofNat (128 + n % 128)).toNat : Int)) := by have := u8_of (128 + n % 128) (by omega); show (128 : Int) + (n : Int) % 128 = _; omega
      have hd2 : wrap64 ((n : Int) / 128) = (n : Int) / 128 := by unfold wrap64; omega
      have HD : Hid ((n : Int) / 128 = ((n / 128 : Nat) : Int)) := by show (n : Int) / 128 = _; omega
      have HI := hid (fun W => ih (n / 128) (by omega) W (by omega))
      have HLM := hid (lng_ge hg)
      have HL1 := hid (lng_10 (n := n / 128) (by omega))
      clear ih hn
      go_enter Try.func72, Try.ntmps72
      go_wp2_with fail
      have hc := HI.out (w.alloc (.cells #[.int .u8 (128 + (n : Int) % 128)] 5))
      rw [← HD.out] at hc
      refine hc.mono ?_
      clear hc
      rintro e w1 ⟨v1, rfl, ho1, hb1⟩
      have HO1 := hid ho1
      have HR0 : Hid (BR w1 (.slice (some ⟨w.heap.size, 0, none⟩) 1 1) [UInt8.ofNat (128 + n % 128)]) := ((BO.one w w.heap.size _ _ HU.out (Nat.le_refl _)).below hb1).br
      have HB1 : Hid (Below w.heap.size w w1) := below_trans ((Below.refl _ w).alloc (Nat.le_refl _) _) hb1 (by simp)
      obtain ⟨p1, n1, c1, hvv⟩ := ho1.shape3
      subst hvv
      clear ho1 hb1
      go_wp2_with fail
      refine (joined_any _ _ _ _ _ HR0.out HO1.out.br (by simp) (by have := HL1.out; omega)).mono ?_
      rintro e w2 ⟨v2, rfl, ho2, hb2⟩
      obtain ⟨p2, n2, c2, hvv⟩ := ho2.shape3
      subst hvv
      have HO2 := hid ho2
      have HB2 := hid (below_trans HB1.out hb2 HB1.out.size)
      clear ho2 hb2
      go_wp2
      go_ret
      exact ⟨_, rfl, by rw [HLM.out]; exact HO2.out.weak HB1.out.size, HB2.out⟩
theorem size_drew (W : World) : W.drew.heap.size = W.heap.size := rfl
theorem drew_alloc_size (W : World) (o : Obj) : (W.drew.alloc o).heap.size = W.heap.size + 1 := by
  rw [← size_drew W]
  simp
/-- The bytes of a text, as a new row. -/
theorem conv_text (W : World) (s : ByteArray) : ∃ p cap W', (convert 9 32 (.string s)).run Try.prog W = .ok (.slice p s.size cap) W' ∧ BR W' (.slice p s.size cap) s.data.toList ∧ Below W.heap.size W W' := by
  have hz : s.data.toList.length = s.size := by simp
  refine ⟨_, _, _, run_bytes_of_string (P := Try.prog) W 9 32 5 s Try.underlying9 Try.underlying32 Try.underlying5, ?_, (Below.refl _ _).drew.alloc (Nat.le_refl _) _⟩
  refine ⟨some ⟨W.heap.size, 0, none⟩, grownCap W s.size 0 5, by rw [hz], fun _ => ⟨W.heap.size, 0, rfl, fun j hj => ⟨by rw [drew_alloc_size]; omega, ?_⟩⟩⟩
  generalize ((bytesRow s (grownCap W s.size 0 5)).size, (bytesRow s (grownCap W s.size 0 5)).size + 1) = fr
  have := World.cell?_alloc_mark W.drew (bytesRow s (grownCap W s.size 0 5)) 5 fr (0 + j)
  rw [size_drew W] at this
  rw [this, Nat.zero_add, bytesRow_at s _ j (by simpa using hj)]
  simp
set_option maxHeartbeats 4000000 in
theorem textBytes_any (s : ByteArray) (w : World) (hs : s.size < 256) :
    Calls Try.prog 73 #[.string s] w fun e w' => ∃ v', e = .returned v' ∧ BO w' w.heap.size v' (txb s) ∧ Below w.heap.size w w' := by
  have hw := w8 s.size hs
  have HU := hid (u8_of s.size hs)
  obtain ⟨pc, cc, wc, hcv, hbr, hbl⟩ := conv_text (w.alloc (.cells #[.int .u8 (s.size : Int)] 5)) s
  have HX : Hid (Below w.heap.size w wc) := below_trans ((Below.refl _ w).alloc (Nat.le_refl _) _) hbl (by simp)
  have HA : Hid (BR wc (.slice (some ⟨w.heap.size, 0, none⟩) 1 1) [UInt8.ofNat s.size]) := ((BO.one w w.heap.size _ _ HU.out (Nat.le_refl _)).below hbl).br
  have HB := hid hbr
  have HS : Hid (s.size < 256) := hs
  have HZ : Hid (s.data.toList.length = s.size) := by show s.data.toList.length = s.size; simp
  clear hs hbr hbl
  go_enter Try.func73, Try.ntmps73
  go_wp2_with fail
  clear hcv
  refine (joined_any _ _ _ _ _ HA.out HB.out (by simp) (by rw [HZ.out]; have := HS.out; omega)).mono ?_
  rintro e w2 ⟨v2, rfl, ho2, hb2⟩
  obtain ⟨p2, n2, c2, hvv⟩ := ho2.shape3
  subst hvv
  have HO2 := hid (ho2.weak HX.out.size)
  have HB2 := hid (below_trans HX.out hb2 HX.out.size)
  clear ho2 hb2
  go_wp2
  go_ret
  exact ⟨_, rfl, HO2.out, HB2.out⟩
end Go.Proofs.Ytepgkemnpcadiaa
