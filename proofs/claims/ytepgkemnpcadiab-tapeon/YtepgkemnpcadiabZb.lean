/-
  What is torn is no operation: WireTorn, by the contract of big.
-/
import Derived.Test.YtepgkemnpcadiabXe
import Derived.Test.YtepgkemnpcadiabXb
import Derived.Test.YtepgkemnpcadiabZp
namespace Go.Proofs.Ytepgkemnpcadiab
open Go.ChangeShapes Go.WideShapes Go.ChangeAt Go.RowKit Go.Maps
set_option linter.unusedVariables false
set_option linter.unusedSimpArgs false
set_option maxRecDepth 20000
abbrev ddV (kd ty lo nn de : Int) (tx : ByteArray) (co : Bool) : Value := .agg #[.int .i64 kd, .int .i64 ty, .int .i64 lo, .int .i64 nn, .int .i64 de, .string tx, .bool co]
/-- What big makes of raw things: an operation that may be told. -/
def BigC (kd ty lo nn de : Int) (tx : ByteArray) (co : Bool) (n m : Int) : Prop := ∀ W, Calls Try.prog 19 #[ddV kd ty lo nn de tx co, .int .i64 n, .int .i64 m] W fun e w' => ∃ (o : Opn) (u : Value), e = .returned (opv o u) ∧ ochk o = 0 ∧ VO w' W.heap.size u o.l ∧ Below W.heap.size W w'
theorem obt_pos {o : Opn} : 0 < (obt o).length := by unfold obt; simp
set_option maxHeartbeats 8000000 in
theorem wireTorn_of (kd ty lo nn de : Int) (tx : ByteArray) (co : Bool) (n m at_ : Int) (w : World) (hb : BigC kd ty lo nn de tx co n m) (ha1 : -9223372036854775808 ≤ at_) (ha2 : at_ ≤ 9223372036854775807) :
    Calls Try.prog 8 #[ddV kd ty lo nn de tx co, .int .i64 n, .int .i64 m, .int .i64 at_] w fun e w' => e = .returned (.bool true) ∧ Below w.heap.size w w' := by
  have HB := hid hb
  have HA : Hid (-9223372036854775808 ≤ at_ ∧ at_ ≤ 9223372036854775807) := ⟨ha1, ha2⟩
  unfold BigC ddV at HB
  unfold ddV
  clear hb ha1 ha2
  go_enter Try.func8, Try.ntmps8
  go_wp2_with fail
  refine (HB.out _).mono ?_
  rintro e w1 ⟨o, u, rfl, ho, hv, hb1⟩
  obtain ⟨pu, nu, cu, hsh⟩ := hv.shape3
  subst hsh
  have HO := hid ho
  have HB1 := hid (below_trans ((Below.refl _ w).alloc (Nat.le_refl _) (.cells #[.int .i64 kd, .int .i64 ty, .int .i64 lo, .int .i64 nn, .int .i64 de, .string tx, .bool co] 37)) hb1 (by simp))
  have HEN := hid (encode_any o (.slice pu nu cu) _ hv.va)
  have HOZ : Hid (obz o = obt o) := by show (if _ then _ else _) = _; rw [if_pos ho]
  have HLN := hid (obt_len ho)
  have HLP := hid (@obt_pos o)
  have HTN := hid (fun (p q : List UInt8) => @dc_torn o ho p q)
  rw [ho, HOZ.out] at HEN
  clear ho hv hb1
  obtain ⟨l, hl⟩ : ∃ l, obt o = l := ⟨_, rfl⟩
  rw [hl] at HEN HLN HLP HTN
  clear hl HOZ
  obtain ⟨k, s, a, b, vs, d, c⟩ := o
  unfold opv at HEN ⊢
  simp only at HEN ⊢
  go_wp2_with fail
  refine HEN.out.mono ?_
  rintro e w2 ⟨v2, rfl, ho2, hb2⟩
  have HB2 := hid (below_trans HB1.out hb2 HB1.out.size)
  obtain ⟨p2, c2, hsh⟩ := ho2.shape
  have HBA := hid ho2.ba
  obtain ⟨N, hN⟩ : ∃ N, l.length = N := ⟨_, rfl⟩
  rw [hN] at hsh
  subst hsh
  have hN1 : 0 < N := by rw [← hN]; exact HLP.out
  have hN2 : N ≤ 200 := by rw [← hN]; exact HLN.out
  have hmx : max (N : Int) 1 = (N : Int) := by omega
  have hp := pk_bd at_ N (by omega)
  have HPK := hid (fun W => picked_any at_ N W HA.out.1 HA.out.2 (by omega) (by omega))
  obtain ⟨j, hj⟩ : ∃ j : Nat, pk at_ N = j := ⟨(pk at_ N).toNat, by omega⟩
  rw [hj] at hp HPK
  obtain ⟨pB, capB, hshB, hcB1, hcB2, hcell⟩ := HBA.out
  rw [hN] at hshB
  cases hshB
  have k1 : (j : Int) ≤ c2 := by omega
  have k2 : (0 : Int) ≤ j := by omega
  have HBT : Hid (BA w2 (.slice p2 j c2) (l.take j)) := by
    have hlt : (l.take j).length = j := by rw [List.length_take]; omega
    refine ⟨p2, c2, by rw [hlt], by rw [hlt]; omega, hcB2, fun c0 => ?_⟩
    obtain ⟨g, off, hp', hx⟩ := hcell (by omega)
    refine ⟨g, off, hp', fun i hi => ?_⟩
    have hi' : i < l.length := by rw [List.length_take] at hi; omega
    refine ⟨(hx i hi').1, ?_⟩
    rw [(hx i hi').2]
    simp
  have HTR : Hid (dcR (l.take j) = (zop, 5)) := HTN.out _ _ (List.take_append_drop j l) (by intro q; rw [List.drop_eq_nil_iff] at q; omega)
  have HDC := hid (decode_any (l.take j) _ _ HBT.out)
  rw [HTR.out] at HDC
  clear ho2 hb2 hcell hj hp hN hcB1 hcB2
  go_wp2_with (go_at_call 11; refine (HPK.out _).mono ?_; rintro e w3 ⟨rfl, rfl⟩)
  refine HDC.out.mono ?_
  rintro e w4 ⟨u4, rfl, hv4, hb4⟩
  obtain ⟨p4, n4, c4, hsh⟩ := hv4.shape3
  subst hsh
  have HB4 := hid (below_trans HB2.out hb4 HB2.out.size)
  unfold opv zop
  simp only
  clear hv4 hb4 hmx k1 k2 hN1 hN2
  go_wp2_with fail
  go_ret
  exact ⟨ret_bool (by simp), HB4.out.alloc HB4.out.size _⟩
end Go.Proofs.Ytepgkemnpcadiab
