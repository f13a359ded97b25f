/-
  An operation is read as it was written; with a byte more it is none: WireBack, by the contract of big.
-/
import Derived.Test.YtepgkemnpcadiabZc
namespace Go.Proofs.Ytepgkemnpcadiab
open Go.ChangeShapes Go.WideShapes Go.ChangeAt Go.RowKit Go.Maps
set_option linter.unusedVariables false
set_option linter.unusedSimpArgs false
set_option maxRecDepth 20000
set_option maxHeartbeats 16000000 in
theorem wireBack_of (kd ty lo nn de : Int) (tx : ByteArray) (co : Bool) (n m : Int) (t : UInt8) (w : World) (hb : BigC kd ty lo nn de tx co n m) :
    Calls Try.prog 7 #[ddV kd ty lo nn de tx co, .int .i64 n, .int .i64 m, .int .u8 (t.toNat : Int)] w fun e w' => e = .returned (.bool true) ∧ Below w.heap.size w w' := by
  have HB := hid hb
  unfold BigC ddV at HB
  unfold ddV
  clear hb
  go_enter Try.func7, Try.ntmps7
  go_wp2_with fail
  refine (HB.out _).mono ?_
  rintro e w1 ⟨o, u, rfl, ho, hv, hb1⟩
  obtain ⟨pu, nu, cu, hsh⟩ := hv.shape3
  subst hsh
  have HB1 := hid (below_trans ((Below.refl _ w).alloc (Nat.le_refl _) (.cells #[.int .i64 kd, .int .i64 ty, .int .i64 lo, .int .i64 nn, .int .i64 de, .string tx, .bool co] 37)) hb1 (by simp))
  have HEN := hid (fun W h => encode_any o (.slice pu nu cu) W h)
  have HCK := hid (fun W h => wchk_any o (.slice pu nu cu) W h)
  have HOZ : Hid (obz o = obt o) := by show (if _ then _ else _) = _; rw [if_pos ho]
  have HLN := hid (obt_len ho)
  have HFW := hid (dc_fw ho)
  have HMO := hid (dc_more ho)
  have HVL : Hid (o.l.length ≤ 4) := by
    rcases op_forms ho with ⟨dn, c, h1, rfl⟩ | ⟨s, an, bn, l, h1, h2, h3, h4, h5, rfl⟩ | ⟨s, h1, rfl⟩
    · show ([] : List Vl).length ≤ 4; simp
    · exact h3
    · show ([] : List Vl).length ≤ 4; simp
  rw [ho] at HEN HCK
  rw [HOZ.out] at HEN
  have HVA := hid hv.va
  clear ho hv hb1 HOZ
  obtain ⟨l, hl⟩ : ∃ l, obt o = l := ⟨_, rfl⟩
  rw [hl] at HEN HLN HFW HMO
  clear hl
  obtain ⟨k, s, a, b, vs, d, c⟩ := o
  unfold opv at HEN HCK ⊢
  simp only at HEN HCK HVA HVL ⊢
  have HOP1 := hid (OpAt.new w1 ⟨k, s, a, b, vs, d, c⟩ (.slice pu nu cu) 44)
  have HBA := hid (HB1.out.alloc HB1.out.size (.cells #[.int .i64 k, .string s, .int .i64 a, .int .i64 b, .slice pu nu cu, .int .i64 d, .bool c] 44))
  have HVB := hid (HVA.out.below ((Below.refl w1.heap.size w1).alloc (Nat.le_refl _) (.cells #[.int .i64 k, .string s, .int .i64 a, .int .i64 b, .slice pu nu cu, .int .i64 d, .bool c] 44)))
  go_wp2_with fail
  refine (HEN.out _ HVB.out).mono ?_
  rintro e w2 ⟨v2, rfl, ho2, hb2⟩
  have HB2 := hid (below_trans HBA.out hb2 HBA.out.size)
  have HV2 := hid (HVB.out.below hb2)
  have HOP2 := hid (HOP1.out.below hb2 HOP1.out.lt)
  obtain ⟨p2, n2, c2, hsh⟩ := ho2.shape3
  subst hsh
  have HO2 := hid ho2
  clear ho2 hb2
  go_wp2_with fail
  refine (decode_any l _ _ HO2.out.ba).mono ?_
  rintro e w3 ⟨u3, rfl, hv3, hb3⟩
  rw [HFW.out] at hv3 ⊢
  have HB3 := hid (below_trans HB2.out hb3 HB2.out.size)
  have HV3 := hid (HV2.out.below hb3)
  have HX3 := hid hv3.va
  have HOP3 := hid (HOP2.out.below hb3 HOP2.out.lt)
  have HR3 := hid (HO2.out.br.below hb3)
  obtain ⟨p3, n3, c3', hsh⟩ := hv3.shape3
  subst hsh
  unfold opv
  simp only at HX3 ⊢
  clear hv3 hb3
  have HOX := hid (OpAt.new w3 ⟨k, s, a, b, vs, d, c⟩ (.slice p3 n3 c3') 44)
  have hbA := (Below.refl w3.heap.size w3).alloc (Nat.le_refl _) (.cells #[.int .i64 k, .string s, .int .i64 a, .int .i64 b, .slice p3 n3 c3', .int .i64 d, .bool c] 44)
  have HB4 := hid (below_trans HB3.out hbA HB3.out.size)
  have HV4 := hid (HV3.out.below hbA)
  have HX4 := hid (HX3.out.below hbA)
  have HOP4 := hid (HOP3.out.below hbA HOP3.out.lt)
  have HR4 := hid (HR3.out.below hbA)
  clear hbA
  go_wp2_with (first
    | (at_builtin; refine wp_copyB (by rfl) _ _ (by rfl) _ _ l (by rfl) (by rfl) HR4.out (by have := HLN.out; omega) ?_; intro v5 w5 ho5 hb5; have HO5 := hid ho5; have HB5 := hid (below_trans HB4.out hb5 HB4.out.size); have HB45 := hid hb5; obtain ⟨p5, n5, c5', hsh⟩ := ho5.shape3; subst hsh; have HS5 := hid hb5.size; clear ho5 hb5)
    | (at_builtin; go_loud (refine wp_push (by rfl) _ _ (by rfl) w5 _ _ l (by rfl) HO5.out (by rfl) (by first | rfl | simp) t _ (by rfl) (by have := HLN.out; omega) HS5.out ?_); intro v6 w6 hown hbl; have HO6 := hid hown; have hb6 := hbl.bel HO5.out HS5.out; have HB46 := hid (HB45.out.trans hb6); obtain ⟨p6, n6, c6', hsh⟩ := hown.shape3; subst hsh; clear hown hbl hb6))
  refine (decode_any (l ++ [t]) _ _ HO6.out.ba).mono ?_
  rintro e w7 ⟨u7, rfl, hv7, hb7⟩
  rw [HMO.out t] at hv7 ⊢
  obtain ⟨p7, n7, c7', hsh⟩ := hv7.shape3
  subst hsh
  have HB47 := hid (below_trans HB46.out hb7 HB46.out.size)
  have HB7 := hid (below_trans HB4.out HB47.out HB4.out.size)
  have HV7 := hid (HV4.out.below HB47.out)
  have HX7 := hid (HX4.out.below HB47.out)
  have hop := HOP4.out.below HB47.out HOP4.out.lt
  have hox := HOX.out.below HB47.out HOX.out.lt
  have HOP7 := hid hop
  have hbB : ∀ o, Below w7.heap.size w7 (w7.alloc o) := fun o => (Below.refl _ _).alloc (Nat.le_refl _) o
  have hop2 := fun o => hop.below (hbB o) hop.lt
  have hox2 := fun o => hox.below (hbB o) hox.lt
  have k0 := fun o => (hop2 o).c0
  have k1 := fun o => (hop2 o).c1
  have k2 := fun o => (hop2 o).c2
  have k3 := fun o => (hop2 o).c3
  have k4 := fun o => (hop2 o).c4
  have k5 := fun o => (hop2 o).c5
  have k6 := fun o => (hop2 o).c6
  have q0 := fun o => (hox2 o).c0
  have q1 := fun o => (hox2 o).c1
  have q2 := fun o => (hox2 o).c2
  have q3 := fun o => (hox2 o).c3
  have q4 := fun o => (hox2 o).c4
  have q5 := fun o => (hox2 o).c5
  have q6 := fun o => (hox2 o).c6
  simp only at k0 k1 k2 k3 k5 k6 q0 q1 q2 q3 q5 q6
  unfold opv zop
  simp only
  clear hv7 hb7 hop hox hop2 hox2 hbB
  go_wp2_with fail
  have hbZ := (Below.refl w7.heap.size w7).alloc (Nat.le_refl _) (.cells #[.int .i64 0, .string ⟨#[]⟩, .int .i64 0, .int .i64 0, .slice p7 n7 c7', .int .i64 0, .bool false] 44)
  refine (sameOpK_any ⟨k, s, a, b, vs, d, c⟩ (.slice pu nu cu) (.slice p3 n3 c3') _ (HV7.out.below hbZ) (HX7.out.below hbZ) (by have := HVL.out; show vs.length ≤ 1000; omega)).mono ?_
  rintro e w8 ⟨rfl, hb8⟩
  have HB8 := hid (below_trans (HB7.out.alloc HB7.out.size _) hb8 (by have := HB7.out.size; simp; omega))
  have HV8 := hid ((HV7.out.below hbZ).below hb8)
  obtain ⟨lt, c0, c1, c2', c3, c4, c5, c6⟩ := (HOP7.out.below hbZ HOP7.out.lt).below hb8 (HOP7.out.below hbZ HOP7.out.lt).lt
  simp only at c0 c1 c2' c3 c5 c6
  clear hb8 hbZ lt k0 k1 k2 k3 k4 k5 k6 q0 q1 q2 q3 q4 q5 q6
  go_wp2_with fail
  refine (HCK.out _ HV8.out).mono ?_
  rintro e w9 ⟨rfl, hb9⟩
  have HB9 := hid (below_trans HB8.out hb9 HB8.out.size)
  clear hb9 c0 c1 c2' c3 c4 c5 c6
  go_wp2_with fail
  go_ret
  exact ⟨ret_bool (by simp), HB9.out⟩
end Go.Proofs.Ytepgkemnpcadiab
