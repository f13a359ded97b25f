/-
  Decode tells what the document says: WireDecodes.
-/
import Derived.Test.YtnfjdkaemgcllaaYd
import Derived.Test.YtnfjdkaemgcllaaYf
namespace Go.Proofs.Ytnfjdkaemgcllaa
open Go.ChangeShapes Go.WideShapes Go.ChangeAt Go.RowKit Go.Maps
set_option linter.unusedVariables false
set_option linter.unusedSimpArgs false
set_option maxRecDepth 20000
theorem dc_len (l : List UInt8) : (dcR l).1.l.length ≤ 4 := by
  by_cases h : (dcR l).2 = 0
  · rcases ok_cases (dc_un h).1 with ⟨_, _, _, _, _, _, h1⟩ | ⟨_, _, h1, _⟩ | ⟨_, _, _, _, h1, _⟩
    · rw [h1]; simp
    · exact h1
    · rw [h1]; simp
  · rw [dc_bad h]
    simp [zop]
set_option maxHeartbeats 8000000 in
theorem wireDecodes_walk (l : List UInt8) (v : Value) (w : World) (hv : BA w v l) (hl : l.length ≤ 140737488355328) :
    Calls Try.prog 5 #[v] w fun e w' => e = .returned (.bool true) ∧ Below w.heap.size w w' := by
  have HV := hid hv
  have HL := hid hl
  obtain ⟨p, n, cap, hsh⟩ : ∃ p n cap, v = .slice p n cap := by obtain ⟨p, cap, h, _⟩ := hv; exact ⟨p, _, cap, h⟩
  subst hsh
  have HLN := hid (dc_len l)
  have HD := hid (fun W V h => decode_any l V W h)
  have HO := hid (fun W h => opOf_any l (.slice p n cap) W h)
  obtain ⟨⟨o, z⟩, hd⟩ : ∃ x, dcR l = x := ⟨_, rfl⟩
  rw [hd] at HLN HD HO
  simp only at HLN HD HO
  clear hv hl hd
  obtain ⟨k, s, a, b, vs, d, c⟩ := o
  unfold opv at HD HO
  simp only at HLN HD HO
  go_enter Try.func5, Try.ntmps5
  go_wp2_with fail
  refine (octets_any l _ _ HV.out.br HL.out).mono ?_
  rintro e w1 ⟨v1, rfl, ho, hb⟩
  obtain ⟨p1, n1, m1, hsh⟩ := ho.shape3
  subst hsh
  have HO1 := hid ho
  have HB1 := hid hb
  clear ho hb
  go_wp2_with fail
  refine (HD.out _ _ HO1.out.ba).mono ?_
  rintro e w2 ⟨u, rfl, hv, hb⟩
  obtain ⟨pu, nu, cu, hsh⟩ := hv.shape3
  subst hsh
  have HB2 := hid (below_trans HB1.out hb HB1.out.size)
  have HV2 := hid hv.va
  clear hv hb
  have hbA : Below w.heap.size w (w2.alloc (.cells #[.int .i64 k, .string s, .int .i64 a, .int .i64 b, .slice pu nu cu, .int .i64 d, .bool c] 26)) := HB2.out.alloc HB2.out.size _
  have HBA := hid hbA
  have hop := OpAt.new w2 ⟨k, s, a, b, vs, d, c⟩ (.slice pu nu cu) 26
  have HOP := hid hop
  clear hbA hop
  go_wp2_with fail
  refine (HO.out _ (BA.below (B := 0) HV.out HBA.out)).mono ?_
  rintro e w3 ⟨u3, rfl, hv3, hb3⟩
  obtain ⟨p3, n3, c3', hsh⟩ := hv3.shape3
  subst hsh
  have HB3 := hid (below_trans HBA.out hb3 HBA.out.size)
  have HV3 := hid hv3.va
  have HV2' := hid ((HV2.out.below ((Below.refl _ _).alloc (Nat.le_refl _) _)).below hb3)
  have hop := HOP.out.below hb3 HOP.out.lt
  have hbB : ∀ o, Below w3.heap.size w3 (w3.alloc o) := fun o => (Below.refl _ _).alloc (Nat.le_refl _) o
  have hop2 := fun o => hop.below (hbB o) hop.lt
  have k0 := fun o => (hop2 o).c0
  have k1 := fun o => (hop2 o).c1
  have k2 := fun o => (hop2 o).c2
  have k3 := fun o => (hop2 o).c3
  have k4 := fun o => (hop2 o).c4
  have k5 := fun o => (hop2 o).c5
  have k6 := fun o => (hop2 o).c6
  simp only at k0 k1 k2 k3 k5 k6
  clear hv3 hb3 hop hop2 hbB
  go_wp2_with fail
  refine (sameOp_any ⟨k, s, a, b, vs, d, c⟩ (.slice pu nu cu) (.slice p3 n3 c3') _ (HV2'.out.below ((Below.refl _ _).alloc (Nat.le_refl _) _)) (HV3.out.below ((Below.refl _ _).alloc (Nat.le_refl _) _)) (by have := HLN.out; show vs.length ≤ 1000; omega)).mono ?_
  rintro e w4 ⟨rfl, hb4⟩
  have HB4 := hid (below_trans (HB3.out.alloc HB3.out.size _) hb4 (by have := HB3.out.size; simp; omega))
  clear hb4 k0 k1 k2 k3 k4 k5 k6
  go_wp2
  go_ret
  exact ⟨ret_bool (by simp), HB4.out⟩
end Go.Proofs.Ytnfjdkaemgcllaa
