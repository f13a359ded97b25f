/-
  An operation's bytes: Encode tells what the document says.
-/
import Derived.Test.YtnfjdkaemgcllaaWl
namespace Go.Proofs.Ytnfjdkaemgcllaa
open Go.ChangeShapes Go.WideShapes Go.ChangeAt Go.RowKit Go.Maps
set_option linter.unusedVariables false
set_option linter.unusedSimpArgs false
set_option maxRecDepth 20000
def tx (l : List UInt8) : ByteArray := ⟨l.toArray⟩
theorem BR.conv {w : World} {v : Value} {l : List UInt8} (h : BR w v l) : (convert 30 9 v).run Try.prog w = .ok (.string (tx l)) w := by
  obtain ⟨p, cap, rfl, hc⟩ := h
  by_cases h0 : l.length = 0
  · have e : l = [] := List.eq_nil_of_length_eq_zero h0
    subst e
    rw [run_convert_bytes_string w 30 9 5 p [].length cap Try.underlying30 Try.underlying5 Try.underlying9]
    cases p <;> simp [Conv.bytesToString, loadCells, loadCellsFrom] <;> rfl
  · obtain ⟨g, off, rfl, hx⟩ := hc (by omega)
    exact run_convert_bytes_back w 30 9 5 ⟨g, off, none⟩ cap l Try.underlying30 Try.underlying5 Try.underlying9 (fun j hj => by
      rw [Addr.add_mid]
      exact (hx j hj).2)
set_option maxHeartbeats 4000000 in
theorem wireEncodes_walk (o : Opn) (v : Value) (w : World) (hv : ValsAt w v o.l) :
    Calls Try.prog 4 #[opv o v] w fun e w' => e = .returned (.bool true) ∧ Below w.heap.size w w' := by
  have H1 := hid (fun W h => encode_any o v W h)
  have H2 := hid (fun W h => opBytes_any o v W h)
  have HV := hid hv
  obtain ⟨z, hz⟩ : ∃ z, ochk o = z := ⟨_, rfl⟩
  obtain ⟨y, hy⟩ : ∃ y, obz o = y := ⟨_, rfl⟩
  rw [hz, hy] at H1 H2
  clear hz hv hy
  obtain ⟨k, s, a, b, l, d, c⟩ := o
  unfold opv at *
  go_enter Try.func4, Try.ntmps4
  go_wp2_with fail
  refine (H1.out _ (HV.out.below ((Below.refl _ w).alloc (Nat.le_refl _) _))).mono ?_
  rintro e w1 ⟨v1, rfl, ho1, hb1⟩
  obtain ⟨p1, n1, m1, hsh⟩ := ho1.shape3
  subst hsh
  have HB1 := hid (below_trans ((Below.refl _ w).alloc (Nat.le_refl _) (.cells #[.int .i64 k, .string s, .int .i64 a, .int .i64 b, v, .int .i64 d, .bool c] 26)) hb1 (by simp))
  have HO1 := hid ho1.br
  obtain ⟨lt, c0, c1, c2, c3, c4, c5, c6⟩ := (OpAt.new w ⟨k, s, a, b, l, d, c⟩ v 26).below hb1 (by simp)
  simp only at c0 c1 c2 c3 c5 c6
  clear hb1 lt ho1
  go_wp2_with fail
  refine (H2.out _ (HV.out.below HB1.out)).mono ?_
  rintro e w2 ⟨v2, rfl, ho2, hb2⟩
  obtain ⟨p2, n2, m2, hsh⟩ := ho2.shape3
  subst hsh
  have hca := (HO1.out.below hb2).conv
  have hcb := ho2.br.conv
  have HB2 := hid (below_trans HB1.out hb2 HB1.out.size)
  clear hb2 c0 c1 c2 c3 c4 c5 c6 ho2
  go_wp2
  go_ret
  exact ⟨ret_bool (by simp), HB2.out⟩
end Go.Proofs.Ytnfjdkaemgcllaa
