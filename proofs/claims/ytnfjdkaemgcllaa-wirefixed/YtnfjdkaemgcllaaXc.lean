/-
  No operation has two forms: WireFixed.
-/
import Derived.Test.YtnfjdkaemgcllaaXb
namespace Go.Proofs.Ytnfjdkaemgcllaa
open Go.ChangeShapes Go.WideShapes Go.ChangeAt Go.RowKit Go.Maps
set_option linter.unusedVariables false
set_option linter.unusedSimpArgs false
set_option maxRecDepth 20000
theorem BA.nil (w : World) : BA w (.slice none 0 0) [] := ⟨none, 0, rfl, by simp, Nat.zero_le _, fun h => absurd h (by simp)⟩
set_option maxHeartbeats 8000000 in
theorem wireFixed_walk (l : List UInt8) (v : Value) (w : World) (hv : BA w v l) (hl : l.length ≤ 140737488355328) :
    Calls Try.prog 7 #[v] w fun e w' => e = .returned (.bool true) ∧ Below w.heap.size w w' := by
  have HV := hid hv.br
  have HL := hid hl
  obtain ⟨p, n, cap, hsh⟩ : ∃ p n cap, v = .slice p n cap := by obtain ⟨p, cap, h, _⟩ := hv; exact ⟨p, _, cap, h⟩
  subst hsh
  clear hv hl
  go_enter Try.func7, Try.ntmps7
  go_wp2_with (at_builtin; go_loud (refine wp_copyB (by rfl) _ _ (by rfl) w _ l (by rfl) (by rfl) HV.out HL.out ?_); intro v1 w1 ho hb; have HO1 := hid ho; have HB1 := hid hb; obtain ⟨p1, n1, m1, hsh⟩ := ho.shape3; subst hsh; clear ho hb)
  refine (decode_any l _ _ HO1.out.ba).mono ?_
  rintro e w2 ⟨u, rfl, hv, hb⟩
  obtain ⟨pu, nu, cu, hsh⟩ := hv.shape3
  subst hsh
  have HB2 := hid (below_trans HB1.out hb HB1.out.size)
  have HVO := hid hv
  have HUN := hid (@dc_un l)
  have HBAD := hid (@dc_bad l)
  clear hv hb
  obtain ⟨⟨o, z⟩, hd⟩ : ∃ x, dcR l = x := ⟨_, rfl⟩
  rw [hd] at HVO HUN HBAD ⊢
  clear hd
  simp only at HVO HUN HBAD ⊢
  by_cases hz : z = 0
  · subst hz
    obtain ⟨h1, h2⟩ := HUN.out rfl
    have HOB : Hid (obz o = l) := by show (if _ then _ else _) = _; rw [if_pos h1]; exact h2
    have HCO := hid h1
    clear HUN HBAD h1 h2
    have HVA := hid HVO.out.va
    have HEN := hid (fun W h => encode_any o (.slice pu nu cu) W h)
    obtain ⟨k, s, a, b, vs, d, c⟩ := o
    unfold opv at *
    simp only at HEN HVA ⊢
    go_wp2_with fail
    refine (HEN.out _ (HVA.out.below ((Below.refl _ _).alloc (Nat.le_refl _) _))).mono ?_
    rintro e w3 ⟨v3, rfl, ho3, hb3⟩
    obtain ⟨p3, n3, m3, hsh⟩ := ho3.shape3
    subst hsh
    have HB3 := hid (below_trans HB2.out (below_trans ((Below.refl w2.heap.size w2).alloc (Nat.le_refl _) (.cells #[.int .i64 k, .string s, .int .i64 a, .int .i64 b, .slice pu nu cu, .int .i64 d, .bool c] 26)) hb3 (by simp)) HB2.out.size)
    rw [HOB.out] at ho3
    have hca := ho3.br.conv
    have hcb := (HV.out.below HB3.out).conv
    rw [HCO.out]
    clear ho3 hb3
    go_wp2
    go_ret
    exact ⟨ret_bool (by simp), HB3.out⟩
  · have hzb : (z != 0) = true := by simpa using hz
    have hzc : (z == 0) = false := by simpa using hz
    obtain rfl : o = zop := HBAD.out hz
    clear HUN HBAD
    unfold opv zop
    simp only
    have HDN := hid (decode_any [] (.slice none 0 0) (w2.alloc (.cells #[.int .i64 0, .string ⟨#[]⟩, .int .i64 0, .int .i64 0, .slice pu nu cu, .int .i64 0, .bool false] 26)) (BA.nil _))
    rw [dc_nil] at HDN
    go_wp2_with fail
    refine HDN.out.mono ?_
    rintro e w3 ⟨u3, rfl, hv3, hb3⟩
    obtain ⟨p3, n3, m3, hsh⟩ := hv3.shape3
    subst hsh
    have k0 : w3.cell? ⟨w2.heap.size, 0, none⟩ = some (.int .i64 0) := (hb3.cell (p := ⟨w2.heap.size, 0, none⟩) (by simp)).trans (cell_new (X := w2) rfl rfl)
    have HB3 := hid (below_trans HB2.out (below_trans ((Below.refl w2.heap.size w2).alloc (Nat.le_refl _) (.cells #[.int .i64 0, .string ⟨#[]⟩, .int .i64 0, .int .i64 0, .slice pu nu cu, .int .i64 0, .bool false] 26)) hb3 (by simp)) HB2.out.size)
    have k1 : ∀ o, (w3.alloc o).cell? ⟨w2.heap.size, 0, none⟩ = some (.int .i64 0) := fun o => (((Below.refl w3.heap.size w3).alloc (Nat.le_refl _) o).cell (p := ⟨w2.heap.size, 0, none⟩) (by have := hb3.size; simp at this; show w2.heap.size < w3.heap.size; omega)).trans k0
    unfold opv zop
    simp only
    clear hv3 hb3
    go_wp2
    go_ret
    exact ⟨ret_bool (by simp), HB3.out.alloc HB3.out.size _⟩
end Go.Proofs.Ytnfjdkaemgcllaa
