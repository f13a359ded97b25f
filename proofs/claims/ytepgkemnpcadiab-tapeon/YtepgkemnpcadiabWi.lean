/-
  An operation's bytes, by the program.
-/
import Derived.Test.YtepgkemnpcadiabWh
namespace Go.Proofs.Ytepgkemnpcadiab
open Go.ChangeShapes Go.WideShapes Go.ChangeAt Go.RowKit Go.Maps
set_option linter.unusedVariables false
set_option linter.unusedSimpArgs false
set_option maxRecDepth 20000
theorem step_call3 {ops : Array Oper} {o : Oper} {a : Act} {w : World} {Ks : Act → World → Prop} {Q : Exit → Act → World → Prop} {E : Prop} (f : FuncId) (he : ∀ args w, (callFunc f args).run Try.prog w = .ok (.enter f args) w) (hw : Region.wanted o (yielded ops a.tmps) = true) (x1 x2 x3 : Operand) (ts : Array TypeId) (ho : o.op = .call { callee := .value (.func f), args := #[x1, x2, x3], argTypes := ts }) (u1 u2 u3 : Value) (h1 : a.eval x1 = u1) (h2 : a.eval x2 = u2) (h3 : a.eval x3 = u3)
    (R : Ending → World → Prop) (hc : Calls Try.prog f #[u1, u2, u3] w R) (h : ∀ e w', R e w' → ∃ v, e = .returned v ∧ Ks (a.put o.dst v) w') :
    if Region.wanted o (yielded ops a.tmps) = true then Oper.wp Try.prog o a w Ks Q else E := by
  rw [if_pos hw]
  unfold Oper.wp execOp
  have hf : a.eval (.func f) = Value.func (Fn.func f) #[] #[] := rfl
  simp [ho, resolve, invoke, Deferred.ofValue, hf, h1, h2, h3, he]
  refine hc.mono ?_
  intro e w' hr
  obtain ⟨v, rfl, hk⟩ := h e w' hr
  exact hk
theorem ent_putFlag : ∀ args w, (callFunc 31 args).run Try.prog w = .ok (.enter 31 args) w := enters_of Try.func31 (by kernel_rfl) rfl
theorem ent_putText : ∀ args w, (callFunc 34 args).run Try.prog w = .ok (.enter 34 args) w := enters_of Try.func34 (by kernel_rfl) rfl
theorem ent_putEvent : ∀ args w, (callFunc 33 args).run Try.prog w = .ok (.enter 33 args) w := enters_of Try.func33 (by kernel_rfl) rfl
/-- An operation's bytes. -/
def obt (o : Opn) : List UInt8 :=
  UInt8.ofNat o.k.toNat :: (if o.k = 2 then lng o.d.toNat ++ [flg o.c] else if o.k = 3 then txb o.s else txb o.s ++ (evt o.a.toNat o.b.toNat o.l ++ o.l.flatMap evb))
theorem obt_2 (s : ByteArray) (a b : Int) (l : List Vl) (dn : Nat) (c : Bool) : obt ⟨2, s, a, b, l, (dn : Int), c⟩ = UInt8.ofNat 2 :: (lng dn ++ [flg c]) := by
  unfold obt
  rw [if_pos rfl]
  rfl
theorem obt_1 (s : ByteArray) (an bn : Nat) (l : List Vl) (d : Int) (c : Bool) : obt ⟨1, s, (an : Int), (bn : Int), l, d, c⟩ = UInt8.ofNat 1 :: (txb s ++ (evt an bn l ++ l.flatMap evb)) := by
  unfold obt
  rw [if_neg (by simp), if_neg (by simp)]
  rfl
theorem obt_3 (s : ByteArray) (a b : Int) (l : List Vl) (d : Int) (c : Bool) : obt ⟨3, s, a, b, l, d, c⟩ = UInt8.ofNat 3 :: txb s := by
  unfold obt
  rw [if_neg (by simp), if_pos rfl]
  rfl
def obz (o : Opn) : List UInt8 := if ochk o = 0 then obt o else []
theorem schk_zero {a b : Int} (h : schk a b = 0) : 0 ≤ a ∧ a ≤ 1099511627776 ∧ 0 ≤ b ∧ b ≤ 1099511627776 ∧ a ≤ b := by
  unfold schk at h
  by_cases c1 : ¬ (0 ≤ a ∧ a ≤ 1099511627776) ∨ ¬ (0 ≤ b ∧ b ≤ 1099511627776)
  · rw [if_pos c1] at h; simp at h
  rw [if_neg c1] at h
  by_cases c2 : b < a
  · rw [if_pos c2] at h; simp at h
  omega
theorem nchk_zero {s : ByteArray} (h : nchk s = 0) : 1 ≤ s.size ∧ s.size ≤ 10 := by
  unfold nchk at h
  by_cases c : s.size < 1 ∨ 10 < s.size
  · rw [if_pos c] at h; simp at h
  omega
theorem ok_cases {o : Opn} (h : ochk o = 0) :
    (o.k = 2 ∧ 0 ≤ o.d ∧ o.d ≤ 1099511627776 ∧ o.s.toList = [] ∧ o.a = 0 ∧ o.b = 0 ∧ o.l = []) ∨
    (o.k = 1 ∧ schk o.a o.b = 0 ∧ o.l.length ≤ 4 ∧ (∀ v ∈ o.l, vchk v = 0) ∧ nchk o.s = 0 ∧ o.d = 0 ∧ o.c = false) ∨
    (o.k = 3 ∧ nchk o.s = 0 ∧ o.a = 0 ∧ o.b = 0 ∧ o.l = [] ∧ o.d = 0 ∧ o.c = false) := by
  by_cases hb : brk o = 0
  · rcases brk_kind hb with hk | hk | hk
    · right; left
      rw [ochk_1 hb hk] at h
      unfold brk S.bare at hb
      rw [if_pos hk] at hb
      have he : evk o.a o.b o.l = 0 := by
        by_cases e : evk o.a o.b o.l = 0
        · exact e
        · rw [if_pos e] at h; exact h
      rw [if_neg (by rw [he]; simp)] at h
      unfold evk at he
      by_cases e1 : schk o.a o.b = 0
      · rw [if_neg (by rw [e1]; simp)] at he
        by_cases e2 : 4 < o.l.length
        · rw [if_pos e2] at he; simp at he
        · rw [if_neg e2] at he
          refine ⟨hk, e1, by omega, fun v hv => ?_, h, ?_⟩
          · obtain ⟨i, hi, rfl⟩ := List.mem_iff_getElem.1 hv
            rw [← vat_at hi]
            exact fst_zero he i hi
          · by_cases e3 : o.d ≠ 0 ∨ o.c = true
            · rw [if_pos e3] at hb; simp at hb
            · refine ⟨by omega, ?_⟩
              cases hc : o.c
              · rfl
              · exact absurd (Or.inr hc) e3
      · rw [if_pos e1] at he
        exact absurd he e1
    · left
      rw [ochk_2 hb hk] at h
      unfold brk S.bare at hb
      rw [if_neg (by omega), if_pos hk] at hb
      unfold tmk at h
      by_cases e1 : 0 ≤ o.d ∧ o.d ≤ 1099511627776
      · by_cases e2 : o.s.toList ≠ [] ∨ o.a ≠ 0 ∨ o.b ≠ 0 ∨ 0 < o.l.length
        · rw [if_pos e2] at hb; simp at hb
        · refine ⟨hk, e1.1, e1.2, ?_, by omega, by omega, List.eq_nil_of_length_eq_zero (by omega)⟩
          by_cases e3 : o.s.toList = []
          · exact e3
          · exact absurd (Or.inl e3) e2
      · rw [if_neg e1] at h; simp at h
    · right; right
      rw [ochk_3 hb hk] at h
      unfold brk S.bare at hb
      rw [if_neg (by omega), if_neg (by omega), if_pos hk] at hb
      by_cases e2 : o.a ≠ 0 ∨ o.b ≠ 0 ∨ 0 < o.l.length ∨ o.d ≠ 0 ∨ o.c = true
      · rw [if_pos e2] at hb; simp at hb
      · refine ⟨hk, h, by omega, by omega, List.eq_nil_of_length_eq_zero (by omega), by omega, ?_⟩
        cases hc : o.c
        · rfl
        · exact absurd (Or.inr (Or.inr (Or.inr (Or.inr hc)))) e2
  · rw [ochk_of rfl hb] at h
    exact absurd h hb
set_option maxHeartbeats 8000000 in
theorem encode_any (o : Opn) (v : Value) (w : World) (hv : ValsAt w v o.l) :
    Calls Try.prog 20 #[opv o v] w fun e w' => ∃ v', e = .returned (.tuple #[v', .int .i64 (ochk o)]) ∧ BO w' w.heap.size v' (obz o) ∧ Below w.heap.size w w' := by
  obtain ⟨z, hz⟩ : ∃ z, ochk o = z := ⟨_, rfl⟩
  obtain ⟨y, hy⟩ : ∃ y, obz o = y := ⟨_, rfl⟩
  have HC := hid (fun W h => wchk_any o v W h)
  have HV := hid hv
  obtain ⟨p, cap, hvs, hmax⟩ := hv.shape'
  subst hvs
  have HY : Hid (y = if z = 0 then obt o else []) := by rw [← hy, ← hz]; rfl
  rw [hz] at HC ⊢
  rw [hy]
  clear hy hv
  by_cases hz0 : z = 0
  · subst hz0
    have hok := ok_cases hz
    have HY2 : Hid (y = obt o) := by rw [HY.out]; rfl
    clear HY hz
    obtain ⟨k, s, a, b, l, d, c⟩ := o
    unfold opv at *
    simp only at *
    rcases hok with ⟨hk, hd1, hd2, -⟩ | ⟨hk, hs, hl4, hvc, hn, -⟩ | ⟨hk, hn, -⟩
    · subst hk
      obtain ⟨dn, rfl⟩ : ∃ dn : Nat, d = dn := ⟨d.toNat, by omega⟩
      have HDN : Hid (dn < 9223372036854775808) := by show _ < _; omega
      have HDL := hid (lng_10 HDN.out)
      have HYY : Hid (y = UInt8.ofNat 2 :: (lng dn ++ [flg c])) := by rw [HY2.out]; exact obt_2 _ _ _ _ _ _
      generalize l.length = n at *
      clear hd1 hd2 hmax HY2
      go_enter Try.func20, Try.ntmps20
      go_wp2_with fail
      have hc := HC.out (w.alloc (.cells #[.int .i64 2, .string s, .int .i64 a, .int .i64 b, .slice p n cap, .int .i64 (dn : Int), .bool c] 44)) (HV.out.below ((Below.refl _ w).alloc (Nat.le_refl _) _))
      refine hc.mono ?_
      rintro e w1 ⟨rfl, hb1⟩
      clear hc
      have HB1 := hid (below_trans ((Below.refl _ w).alloc (Nat.le_refl _) (.cells #[.int .i64 2, .string s, .int .i64 a, .int .i64 b, .slice p n cap, .int .i64 (dn : Int), .bool c] 44)) hb1 (by simp))
      have hop := (OpAt.new w ⟨2, s, a, b, l, (dn : Int), c⟩ (.slice p n cap) 44).below hb1 (by simp)
      have HOP := hid hop
      obtain ⟨lt, c0, c1, c2, c3, c4, c5, c6⟩ := hop
      simp only at c0 c1 c2 c3 c5 c6
      have HLT := hid lt
      clear hb1 lt
      have HO1 : Hid (BO (w1.alloc (.cells #[.int .u8 2] 5)) w1.heap.size (.slice (some ⟨w1.heap.size, 0, none⟩) 1 1) [UInt8.ofNat 2]) := BO.one w1 _ _ _ (by rfl) (Nat.le_refl _)
      have HBD : Hid (Below w1.heap.size w1 (w1.alloc (.cells #[.int .u8 2] 5))) := (Below.refl _ _).alloc (Nat.le_refl _) _
      have HOD : Hid (BO (w1.alloc (.cells #[.int .u8 2] 5)).drew w1.heap.size (.slice (some ⟨w1.heap.size, 0, none⟩) 1 1) [UInt8.ofNat 2]) := HO1.out.below ((Below.refl _ _).drew)
      have d0 := (HBD.out.cell (p := ⟨w.heap.size, 0, none⟩) HLT.out).trans c0
      have d1 := (HBD.out.cell (p := ⟨w.heap.size, 1, none⟩) HLT.out).trans c1
      have d2 := (HBD.out.cell (p := ⟨w.heap.size, 2, none⟩) HLT.out).trans c2
      have d3 := (HBD.out.cell (p := ⟨w.heap.size, 3, none⟩) HLT.out).trans c3
      have d4 := (HBD.out.cell (p := ⟨w.heap.size, 4, none⟩) HLT.out).trans c4
      have d5 := (HBD.out.cell (p := ⟨w.heap.size, 5, none⟩) HLT.out).trans c5
      have d6 := (HBD.out.cell (p := ⟨w.heap.size, 6, none⟩) HLT.out).trans c6
      go_wp2_with fail
      refine start_n (S := fun W => W.cell? ⟨w.heap.size, 5, none⟩ = some (.int .i64 (dn : Int)) ∧ W.cell? ⟨w.heap.size, 6, none⟩ = some (.bool c)) 9 #[false, false, false, false, false, false, false, false, false] rfl rfl (by kernel_rfl) (⟨(HBD.out.drew.cell (p := ⟨w.heap.size, 5, none⟩) HLT.out).trans HOP.out.c5, (HBD.out.drew.cell (p := ⟨w.heap.size, 6, none⟩) HLT.out).trans HOP.out.c6⟩) (fun hHeld => ?_)
      refine take_mk (i := 0) (v := ?v7) rfl (by kernel_rfl) (by kernel_rfl) (by kernel_rfl) (fun _ _ _ h => h) (Or.inl ⟨by rfl, ?hy7⟩) (by assumption) ?rest7
      case hy7 => (intro w0 hSw; obtain ⟨q0, q1⟩ := hSw; go_simp <;> (try (with_reducible rfl)))
      (try simp only [Act.put, List.setIfInBounds_toArray, List.set_cons_zero, List.set_cons_succ])
      refine take_mk (i := 1) (v := ?v8) rfl (by kernel_rfl) (by kernel_rfl) (by kernel_rfl) (fun _ _ _ h => h) (Or.inl ⟨by rfl, ?hy8⟩) (by assumption) ?rest8
      case hy8 => (intro w0 hSw; obtain ⟨q0, q1⟩ := hSw; go_simp <;> (try (with_reducible rfl)))
      (try simp only [Act.put, List.setIfInBounds_toArray, List.set_cons_zero, List.set_cons_succ])
      refine take_mk (i := 2) (v := ?v9) rfl (by kernel_rfl) (by kernel_rfl) (by kernel_rfl) (fun _ _ _ h => h) (Or.inl ⟨by rfl, ?hy9⟩) (by assumption) ?rest9
      case hy9 => (intro w0 hSw; obtain ⟨q0, q1⟩ := hSw; go_simp <;> (try (with_reducible rfl)))
      (try simp only [Act.put, List.setIfInBounds_toArray, List.set_cons_zero, List.set_cons_succ])
      refine take_mk (i := 4) (v := ?v10) rfl (by kernel_rfl) (by kernel_rfl) (by kernel_rfl) (fun _ _ _ h => h) (Or.inl ⟨by rfl, ?hy10⟩) (by assumption) ?rest10
      case hy10 => (intro w0 hSw; obtain ⟨q0, q1⟩ := hSw; go_simp <;> (try (with_reducible rfl)))
      (try simp only [Act.put, List.setIfInBounds_toArray, List.set_cons_zero, List.set_cons_succ])
      refine take_mk (i := 5) (v := ?v11) rfl (by kernel_rfl) (by kernel_rfl) (by kernel_rfl) (fun _ _ _ h => h) (Or.inl ⟨by rfl, ?hy11⟩) (by assumption) ?rest11
      case hy11 => (intro w0 hSw; obtain ⟨q0, q1⟩ := hSw; go_simp <;> (try (with_reducible rfl)))
      (try simp only [Act.put, List.setIfInBounds_toArray, List.set_cons_zero, List.set_cons_succ])
      refine wpAnyH_ready (rs := [3]) (by kernel_rfl) (by simp) ?_
      refine cons_mk rfl (fun K hK => ?_) AllReadyH.nil
      refine step_call2 32 ent_putLong (by rfl) _ _ _ (by rfl) (.slice (some ⟨w1.heap.size, 0, none⟩) 1 1) (.int .i64 (dn : Int)) (by rfl) (by rfl) _ (putLong_any w1.heap.size _ _ dn _ HOD.out (by simp) HDN.out HBD.out.size) ?_
      rintro e w4 ⟨v4, rfl, ho4, hg4⟩
      obtain ⟨p4, n4, k4, hvv⟩ := ho4.shape3
      subst hvv
      refine ⟨_, rfl, ?_⟩
      have HO4 := hid ho4
      have HB4 := hid (HBD.out.drew.trans (hg4.bel HOD.out HBD.out.size))
      clear ho4 hg4
      refine hK.out _ _ (⟨(HB4.out.cell (p := ⟨w.heap.size, 5, none⟩) HLT.out).trans HOP.out.c5, (HB4.out.cell (p := ⟨w.heap.size, 6, none⟩) HLT.out).trans HOP.out.c6⟩) (fun hHeld => ?_)
      clear hK K
      (try simp only [Act.put, List.setIfInBounds_toArray, List.set_cons_zero, List.set_cons_succ])
      refine wpAnyH_ready (rs := [6]) (by kernel_rfl) (by simp) ?_
      refine cons_mk rfl (fun K hK => ?_) AllReadyH.nil
      refine step_call2 31 ent_putFlag (by rfl) _ _ _ (by rfl) (.slice p4 n4 k4) (.bool c) (by rfl) (by rfl) _ (putFlag_any w1.heap.size _ _ c _ HO4.out (by have := HDL.out; simp; omega) HB4.out.size) ?_
      rintro e w5 ⟨v5, rfl, ho5, hg5⟩
      obtain ⟨p5, n5, k5, hvv⟩ := ho5.shape3
      subst hvv
      refine ⟨_, rfl, ?_⟩
      have HO5 := hid ho5
      have HB5 := hid (HB4.out.trans (hg5.bel HO4.out HB4.out.size))
      clear ho5 hg5
      refine hK.out _ _ (⟨(HB5.out.cell (p := ⟨w.heap.size, 5, none⟩) HLT.out).trans HOP.out.c5, (HB5.out.cell (p := ⟨w.heap.size, 6, none⟩) HLT.out).trans HOP.out.c6⟩) (fun hHeld => ?_)
      clear hK K
      (try simp only [Act.put, List.setIfInBounds_toArray, List.set_cons_zero, List.set_cons_succ])
      refine take_mk (i := 7) (v := ?v12) rfl (by kernel_rfl) (by kernel_rfl) (by kernel_rfl) (fun _ _ _ h => h) (Or.inl ⟨by rfl, ?hy12⟩) (by assumption) ?rest12
      case hy12 => (intro w0 hSw; obtain ⟨q0, q1⟩ := hSw; go_simp <;> (try (with_reducible rfl)))
      (try simp only [Act.put, List.setIfInBounds_toArray, List.set_cons_zero, List.set_cons_succ])
      refine take_mk (i := 8) (v := ?v13) rfl (by kernel_rfl) (by kernel_rfl) (by kernel_rfl) (fun _ _ _ h => h) (Or.inl ⟨by rfl, ?hy13⟩) (by assumption) ?rest13
      case hy13 => (intro w0 hSw; obtain ⟨q0, q1⟩ := hSw; go_simp <;> (try (with_reducible rfl)))
      (try simp only [Act.put, List.setIfInBounds_toArray, List.set_cons_zero, List.set_cons_succ])
      refine wpAnyH_done (by kernel_rfl) ?_ _
      clear c0 c1 c2 c3 c4 c5 c6 d0 d1 d2 d3 d4 d5 d6
      go_wp2
      go_ret2
      exact ⟨_, rfl, by rw [HYY.out]; exact HO5.out.weak HB1.out.size, below_trans HB1.out HB5.out HB1.out.size⟩
    · subst hk
      obtain ⟨ha1, ha2, hb1, hb2, -⟩ := schk_zero hs
      have HSZ := hid (nchk_zero hn)
      obtain ⟨an, rfl⟩ : ∃ an : Nat, a = an := ⟨a.toNat, by omega⟩
      obtain ⟨bn, rfl⟩ : ∃ bn : Nat, b = bn := ⟨b.toNat, by omega⟩
      have HAN : Hid (an ≤ 1099511627776) := by show _ ≤ _; omega
      have HBN : Hid (bn ≤ 1099511627776) := by show _ ≤ _; omega
      have HL4 := hid hl4
      have HVC := hid hvc
      have HYY : Hid (y = UInt8.ofNat 1 :: (txb s ++ (evt an bn l ++ l.flatMap evb))) := by rw [HY2.out]; exact obt_1 _ _ _ _ _ _
      obtain ⟨n, hnl⟩ : ∃ n, l.length = n := ⟨_, rfl⟩
      rw [hnl] at HC HV ⊢
      clear ha1 ha2 hb1 hb2 hmax hs hl4 hvc hn HY2 hnl
      go_enter Try.func20, Try.ntmps20
      go_wp2_with fail
      have hc := HC.out (w.alloc (.cells #[.int .i64 1, .string s, .int .i64 (an : Int), .int .i64 (bn : Int), .slice p n cap, .int .i64 d, .bool c] 44)) (HV.out.below ((Below.refl _ w).alloc (Nat.le_refl _) _))
      refine hc.mono ?_
      rintro e w1 ⟨rfl, hb1⟩
      clear hc
      have HB1 := hid (below_trans ((Below.refl _ w).alloc (Nat.le_refl _) (.cells #[.int .i64 1, .string s, .int .i64 (an : Int), .int .i64 (bn : Int), .slice p n cap, .int .i64 d, .bool c] 44)) hb1 (by simp))
      have hop := (OpAt.new w ⟨1, s, (an : Int), (bn : Int), l, d, c⟩ (.slice p n cap) 44).below hb1 (by simp)
      have HOP := hid hop
      obtain ⟨lt, c0, c1, c2, c3, c4, c5, c6⟩ := hop
      simp only at c0 c1 c2 c3 c5 c6
      have HLT := hid lt
      clear hb1 lt
      have HVB : Hid (∀ W, Below w1.heap.size w1 W → ValsAt W (.slice p n cap) l) := fun W b => HV.out.below (below_trans HB1.out b HB1.out.size)
      have HO1 : Hid (BO (w1.alloc (.cells #[.int .u8 1] 5)) w1.heap.size (.slice (some ⟨w1.heap.size, 0, none⟩) 1 1) [UInt8.ofNat 1]) := BO.one w1 _ _ _ (by rfl) (Nat.le_refl _)
      have HBD : Hid (Below w1.heap.size w1 (w1.alloc (.cells #[.int .u8 1] 5))) := (Below.refl _ _).alloc (Nat.le_refl _) _
      have HOD : Hid (BO (w1.alloc (.cells #[.int .u8 1] 5)).drew w1.heap.size (.slice (some ⟨w1.heap.size, 0, none⟩) 1 1) [UInt8.ofNat 1]) := HO1.out.below ((Below.refl _ _).drew)
      have d0 := (HBD.out.cell (p := ⟨w.heap.size, 0, none⟩) HLT.out).trans c0
      have d1 := (HBD.out.cell (p := ⟨w.heap.size, 1, none⟩) HLT.out).trans c1
      have d2 := (HBD.out.cell (p := ⟨w.heap.size, 2, none⟩) HLT.out).trans c2
      have d3 := (HBD.out.cell (p := ⟨w.heap.size, 3, none⟩) HLT.out).trans c3
      have d4 := (HBD.out.cell (p := ⟨w.heap.size, 4, none⟩) HLT.out).trans c4
      have d5 := (HBD.out.cell (p := ⟨w.heap.size, 5, none⟩) HLT.out).trans c5
      have d6 := (HBD.out.cell (p := ⟨w.heap.size, 6, none⟩) HLT.out).trans c6
      go_wp2_with fail
      refine start_n (S := fun W => W.cell? ⟨w.heap.size, 1, none⟩ = some (.string s) ∧ W.cell? ⟨w.heap.size, 2, none⟩ = some (.int .i64 (an : Int)) ∧ W.cell? ⟨w.heap.size, 3, none⟩ = some (.int .i64 (bn : Int)) ∧ W.cell? ⟨w.heap.size, 4, none⟩ = some (.slice p n cap)) 11 #[false, false, false, false, false, false, false, false, false, false, false] rfl rfl (by kernel_rfl) (⟨(HBD.out.drew.cell (p := ⟨w.heap.size, 1, none⟩) HLT.out).trans HOP.out.c1, (HBD.out.drew.cell (p := ⟨w.heap.size, 2, none⟩) HLT.out).trans HOP.out.c2, (HBD.out.drew.cell (p := ⟨w.heap.size, 3, none⟩) HLT.out).trans HOP.out.c3, (HBD.out.drew.cell (p := ⟨w.heap.size, 4, none⟩) HLT.out).trans HOP.out.c4⟩) (fun hHeld => ?_)
      refine take_mk (i := 0) (v := ?v14) rfl (by kernel_rfl) (by kernel_rfl) (by kernel_rfl) (fun _ _ _ h => h) (Or.inl ⟨by rfl, ?hy14⟩) (by assumption) ?rest14
      case hy14 => (intro w0 hSw; obtain ⟨q0, q1, q2, q3⟩ := hSw; go_simp <;> (try (with_reducible rfl)))
      (try simp only [Act.put, List.setIfInBounds_toArray, List.set_cons_zero, List.set_cons_succ])
      refine take_mk (i := 1) (v := ?v15) rfl (by kernel_rfl) (by kernel_rfl) (by kernel_rfl) (fun _ _ _ h => h) (Or.inl ⟨by rfl, ?hy15⟩) (by assumption) ?rest15
      case hy15 => (intro w0 hSw; obtain ⟨q0, q1, q2, q3⟩ := hSw; go_simp <;> (try (with_reducible rfl)))
      (try simp only [Act.put, List.setIfInBounds_toArray, List.set_cons_zero, List.set_cons_succ])
      refine take_mk (i := 2) (v := ?v16) rfl (by kernel_rfl) (by kernel_rfl) (by kernel_rfl) (fun _ _ _ h => h) (Or.inl ⟨by rfl, ?hy16⟩) (by assumption) ?rest16
      case hy16 => (intro w0 hSw; obtain ⟨q0, q1, q2, q3⟩ := hSw; go_simp <;> (try (with_reducible rfl)))
      (try simp only [Act.put, List.setIfInBounds_toArray, List.set_cons_zero, List.set_cons_succ])
      refine take_mk (i := 4) (v := ?v17) rfl (by kernel_rfl) (by kernel_rfl) (by kernel_rfl) (fun _ _ _ h => h) (Or.inl ⟨by rfl, ?hy17⟩) (by assumption) ?rest17
      case hy17 => (intro w0 hSw; obtain ⟨q0, q1, q2, q3⟩ := hSw; go_simp <;> (try (with_reducible rfl)))
      (try simp only [Act.put, List.setIfInBounds_toArray, List.set_cons_zero, List.set_cons_succ])
      refine take_mk (i := 5) (v := ?v18) rfl (by kernel_rfl) (by kernel_rfl) (by kernel_rfl) (fun _ _ _ h => h) (Or.inl ⟨by rfl, ?hy18⟩) (by assumption) ?rest18
      case hy18 => (intro w0 hSw; obtain ⟨q0, q1, q2, q3⟩ := hSw; go_simp <;> (try (with_reducible rfl)))
      (try simp only [Act.put, List.setIfInBounds_toArray, List.set_cons_zero, List.set_cons_succ])
      refine take_mk (i := 6) (v := ?v19) rfl (by kernel_rfl) (by kernel_rfl) (by kernel_rfl) (fun _ _ _ h => h) (Or.inl ⟨by rfl, ?hy19⟩) (by assumption) ?rest19
      case hy19 => (intro w0 hSw; obtain ⟨q0, q1, q2, q3⟩ := hSw; go_simp <;> (try (with_reducible rfl)))
      (try simp only [Act.put, List.setIfInBounds_toArray, List.set_cons_zero, List.set_cons_succ])
      refine take_mk (i := 7) (v := ?v20) rfl (by kernel_rfl) (by kernel_rfl) (by kernel_rfl) (fun _ _ _ h => h) (Or.inl ⟨by rfl, ?hy20⟩) (by assumption) ?rest20
      case hy20 => (intro w0 hSw; obtain ⟨q0, q1, q2, q3⟩ := hSw; go_simp <;> (try (with_reducible rfl)))
      (try simp only [Act.put, List.setIfInBounds_toArray, List.set_cons_zero, List.set_cons_succ])
      refine wpAnyH_ready (rs := [3]) (by kernel_rfl) (by simp) ?_
      refine cons_mk rfl (fun K hK => ?_) AllReadyH.nil
      refine step_call2 34 ent_putText (by rfl) _ _ _ (by rfl) (.slice (some ⟨w1.heap.size, 0, none⟩) 1 1) (.string s) (by rfl) (by rfl) _ (putText_any w1.heap.size _ _ s _ HOD.out (by simp) (by have := HSZ.out; omega) HBD.out.size) ?_
      rintro e w4 ⟨v4, rfl, ho4, hg4⟩
      obtain ⟨p4, n4, k4, hvv⟩ := ho4.shape3
      subst hvv
      refine ⟨_, rfl, ?_⟩
      have HO4 := hid ho4
      have HB4 := hid (HBD.out.drew.trans hg4)
      clear ho4 hg4
      refine hK.out _ _ (⟨(HB4.out.cell (p := ⟨w.heap.size, 1, none⟩) HLT.out).trans HOP.out.c1, (HB4.out.cell (p := ⟨w.heap.size, 2, none⟩) HLT.out).trans HOP.out.c2, (HB4.out.cell (p := ⟨w.heap.size, 3, none⟩) HLT.out).trans HOP.out.c3, (HB4.out.cell (p := ⟨w.heap.size, 4, none⟩) HLT.out).trans HOP.out.c4⟩) (fun hHeld => ?_)
      clear hK K
      (try simp only [Act.put, List.setIfInBounds_toArray, List.set_cons_zero, List.set_cons_succ])
      refine wpAnyH_ready (rs := [8]) (by kernel_rfl) (by simp) ?_
      refine cons_mk rfl (fun K hK => ?_) AllReadyH.nil
      refine step_call3 33 ent_putEvent (by rfl) _ _ _ _ (by rfl) (.slice p4 n4 k4) (.agg #[.int .i64 (an : Int), .int .i64 (bn : Int)]) (.slice p n cap) (by rfl) (by rfl) (by rfl) _ (putEvent_any w1.heap.size _ _ an bn _ l _ HO4.out (by have := HSZ.out; simp [txb]; omega) HB4.out.size HAN.out HBN.out (HVB.out _ HB4.out) (fun W b => HVB.out _ (HB4.out.trans b)) HL4.out HVC.out) ?_
      rintro e w5 ⟨v5, rfl, ho5, hg5⟩
      obtain ⟨p5, n5, k5, hvv⟩ := ho5.shape3
      subst hvv
      refine ⟨_, rfl, ?_⟩
      have HO5 := hid ho5
      have HB5 := hid (HB4.out.trans hg5)
      clear ho5 hg5
      refine hK.out _ _ (⟨(HB5.out.cell (p := ⟨w.heap.size, 1, none⟩) HLT.out).trans HOP.out.c1, (HB5.out.cell (p := ⟨w.heap.size, 2, none⟩) HLT.out).trans HOP.out.c2, (HB5.out.cell (p := ⟨w.heap.size, 3, none⟩) HLT.out).trans HOP.out.c3, (HB5.out.cell (p := ⟨w.heap.size, 4, none⟩) HLT.out).trans HOP.out.c4⟩) (fun hHeld => ?_)
      clear hK K
      (try simp only [Act.put, List.setIfInBounds_toArray, List.set_cons_zero, List.set_cons_succ])
      refine take_mk (i := 9) (v := ?v21) rfl (by kernel_rfl) (by kernel_rfl) (by kernel_rfl) (fun _ _ _ h => h) (Or.inl ⟨by rfl, ?hy21⟩) (by assumption) ?rest21
      case hy21 => (intro w0 hSw; obtain ⟨q0, q1, q2, q3⟩ := hSw; go_simp <;> (try (with_reducible rfl)))
      (try simp only [Act.put, List.setIfInBounds_toArray, List.set_cons_zero, List.set_cons_succ])
      refine take_mk (i := 10) (v := ?v22) rfl (by kernel_rfl) (by kernel_rfl) (by kernel_rfl) (fun _ _ _ h => h) (Or.inl ⟨by rfl, ?hy22⟩) (by assumption) ?rest22
      case hy22 => (intro w0 hSw; obtain ⟨q0, q1, q2, q3⟩ := hSw; go_simp <;> (try (with_reducible rfl)))
      (try simp only [Act.put, List.setIfInBounds_toArray, List.set_cons_zero, List.set_cons_succ])
      refine wpAnyH_done (by kernel_rfl) ?_ _
      clear c0 c1 c2 c3 c4 c5 c6 d0 d1 d2 d3 d4 d5 d6
      go_wp2
      go_ret2
      exact ⟨_, rfl, by rw [HYY.out]; have := HO5.out.weak HB1.out.size; simpa using this, below_trans HB1.out HB5.out HB1.out.size⟩
    · subst hk
      have HSZ := hid (nchk_zero hn)
      have HYY : Hid (y = UInt8.ofNat 3 :: txb s) := by rw [HY2.out]; exact obt_3 _ _ _ _ _ _
      generalize l.length = n at *
      clear hmax hn HY2
      go_enter Try.func20, Try.ntmps20
      go_wp2_with fail
      have hc := HC.out (w.alloc (.cells #[.int .i64 3, .string s, .int .i64 a, .int .i64 b, .slice p n cap, .int .i64 d, .bool c] 44)) (HV.out.below ((Below.refl _ w).alloc (Nat.le_refl _) _))
      refine hc.mono ?_
      rintro e w1 ⟨rfl, hb1⟩
      clear hc
      have HB1 := hid (below_trans ((Below.refl _ w).alloc (Nat.le_refl _) (.cells #[.int .i64 3, .string s, .int .i64 a, .int .i64 b, .slice p n cap, .int .i64 d, .bool c] 44)) hb1 (by simp))
      have hop := (OpAt.new w ⟨3, s, a, b, l, d, c⟩ (.slice p n cap) 44).below hb1 (by simp)
      have HOP := hid hop
      obtain ⟨lt, c0, c1, c2, c3, c4, c5, c6⟩ := hop
      simp only at c0 c1 c2 c3 c5 c6
      have HLT := hid lt
      clear hb1 lt
      have HO1 : Hid (BO (w1.alloc (.cells #[.int .u8 3] 5)) w1.heap.size (.slice (some ⟨w1.heap.size, 0, none⟩) 1 1) [UInt8.ofNat 3]) := BO.one w1 _ _ _ (by rfl) (Nat.le_refl _)
      have HBD : Hid (Below w1.heap.size w1 (w1.alloc (.cells #[.int .u8 3] 5))) := (Below.refl _ _).alloc (Nat.le_refl _) _
      have HOD : Hid (BO (w1.alloc (.cells #[.int .u8 3] 5)).drew w1.heap.size (.slice (some ⟨w1.heap.size, 0, none⟩) 1 1) [UInt8.ofNat 3]) := HO1.out.below ((Below.refl _ _).drew)
      have d0 := (HBD.out.cell (p := ⟨w.heap.size, 0, none⟩) HLT.out).trans c0
      have d1 := (HBD.out.cell (p := ⟨w.heap.size, 1, none⟩) HLT.out).trans c1
      have d2 := (HBD.out.cell (p := ⟨w.heap.size, 2, none⟩) HLT.out).trans c2
      have d3 := (HBD.out.cell (p := ⟨w.heap.size, 3, none⟩) HLT.out).trans c3
      have d4 := (HBD.out.cell (p := ⟨w.heap.size, 4, none⟩) HLT.out).trans c4
      have d5 := (HBD.out.cell (p := ⟨w.heap.size, 5, none⟩) HLT.out).trans c5
      have d6 := (HBD.out.cell (p := ⟨w.heap.size, 6, none⟩) HLT.out).trans c6
      go_wp2_with fail
      refine (putText_any w1.heap.size _ _ s _ HO1.out (by simp) (by have := HSZ.out; omega) HBD.out.size).mono ?_
      rintro e w5 ⟨v5, rfl, ho5, hg5⟩
      obtain ⟨p5, n5, c5', hvv⟩ := ho5.shape3
      subst hvv
      have HO5 := hid ho5
      have HB5 := hid (HBD.out.trans hg5)
      clear ho5 hg5 c0 c1 c2 c3 c4 c5 c6 d0 d1 d2 d3 d4 d5 d6
      go_wp2
      go_ret2
      exact ⟨_, rfl, by rw [HYY.out]; exact HO5.out.weak HB1.out.size, below_trans HB1.out HB5.out HB1.out.size⟩
  · have hzb : (z == 0) = false := by simpa using hz0
    have hzd : (z != 0) = true := by simpa using hz0
    have HYY : Hid (y = []) := by rw [HY.out, if_neg hz0]; rfl
    clear HY hz
    obtain ⟨k, s, a, b, l, d, c⟩ := o
    unfold opv at *
    simp only at *
    generalize l.length = n at *
    clear hmax
    go_enter Try.func20, Try.ntmps20
    go_wp2_with fail
    have hc := HC.out (w.alloc (.cells #[.int .i64 k, .string s, .int .i64 a, .int .i64 b, .slice p n cap, .int .i64 d, .bool c] 44)) (HV.out.below ((Below.refl _ w).alloc (Nat.le_refl _) _))
    refine hc.mono ?_
    rintro e w1 ⟨rfl, hb1⟩
    clear hc
    have HB1 := hid (below_trans ((Below.refl _ w).alloc (Nat.le_refl _) (.cells #[.int .i64 k, .string s, .int .i64 a, .int .i64 b, .slice p n cap, .int .i64 d, .bool c] 44)) hb1 (by simp))
    have hop := (OpAt.new w ⟨k, s, a, b, l, d, c⟩ (.slice p n cap) 44).below hb1 (by simp)
    have HOP := hid hop
    obtain ⟨lt, c0, c1, c2, c3, c4, c5, c6⟩ := hop
    simp only at c0 c1 c2 c3 c5 c6
    have HLT := hid lt
    clear hb1 lt
    clear c0 c1 c2 c3 c4 c5 c6
    go_wp2
    go_ret2
    exact ⟨_, rfl, by rw [HYY.out]; exact BO.nil _ _, HB1.out⟩
end Go.Proofs.Ytepgkemnpcadiab
