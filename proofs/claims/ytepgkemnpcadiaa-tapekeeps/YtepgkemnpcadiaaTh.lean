/-
  The bytes of an act; rows of bytes that are grown.
-/
import Derived.Test.YtepgkemnpcadiaaTd
import Derived.Test.YtepgkemnpcadiaaRh
import Derived.Test.YtepgkemnpcadiaaXe
namespace Go.Proofs.Ytepgkemnpcadiaa
open Go.ChangeShapes Go.WideShapes Go.ChangeAt Go.RowKit Go.Maps
set_option linter.unusedVariables false
set_option linter.unusedSimpArgs false
set_option maxRecDepth 20000
/-- A new row: what is behind a full one. -/
theorem wp_appFull {ops : Array Oper} {rest : List Oper} {o : Oper} {a : Act} {Q : Exit → Act → World → Prop} (hgd : o.guard = none) (s x : Operand)
    (ho : o.op = .call { callee := .builtin .append, args := #[s, x], argTypes := #[32, 32] }) (W : World) (p : Option Addr) (n : Nat) (l : List UInt8) (hs : a.eval s = .slice p n n) (h : BA W (.slice p n n) l)
    (g off m c : Nat) (l2 : List UInt8) (hx : a.eval x = .slice (some ⟨g, off, none⟩) m c) (hl2 : l2.length = m) (h2 : ∀ j (hj : j < l2.length), W.cell? ⟨g, off + j, none⟩ = some (.int .u8 (l2[j].toNat : Int))) (hm : 0 < m) (hl : n + m < 50000000)
    (k : ∀ v' w', BO w' W.heap.size v' (l ++ l2) → Below W.heap.size W w' → wpList Try.prog ops Q rest (a.put o.dst v') w') :
    wpList Try.prog ops Q (o :: rest) a W := by
  obtain ⟨i0, a1, a2, a3, a4⟩ := info_parts infoB
  obtain ⟨p', c', e, q1, q2, q3⟩ := h
  simp at e
  obtain ⟨rfl, rfl, rfl⟩ := e
  refine wpList_append_grows W hgd s x 32 ho 5 i0 (.int .u8 0) 1 1 Try.underlying32 a1 a2 a3 a4 rfl (by omega) p l.length l.length (bc l) hs (fun hp => ?_) (by rw [bc_len]; omega) (fun b hb j u hj => ?_) ⟨g, off, none⟩ m c (bc l2) hx (by rw [bc_len]; omega) (fun j u hj => ?_) ?_ (by omega) (by unfold maxLen; omega) (by omega) ?_
  · by_cases h0 : l.length = 0
    · exact ⟨h0, h0⟩
    · obtain ⟨g', off', hp', _⟩ := q3 (by omega)
      rw [hp] at hp'
      cases hp'
  · have hlt : j < l.length := by have := (List.getElem?_eq_some_iff.1 hj).1; rwa [bc_len] at this
    obtain ⟨g', off', hp', hc⟩ := q3 (by omega)
    rw [hb] at hp'
    cases hp'
    rw [bc_at hlt] at hj
    cases hj
    rw [Addr.add_mid]
    exact (hc j hlt).2
  · have hlt : j < l2.length := by have := (List.getElem?_eq_some_iff.1 hj).1; rwa [bc_len] at this
    rw [bc_at hlt] at hj
    cases hj
    rw [Addr.add_mid]
    exact h2 j hlt
  · intro u hu
    obtain ⟨b, _, rfl⟩ := List.mem_map.1 hu
    rfl
  · intro v' w' hown hgrow
    refine k v' w' (by unfold BO; rw [List.length_append, bc_app, hl2]; exact hown) ((Below.refl _ _).grown hgrow (Nat.le_refl _) (fun k hk => by cases hk))
/-- Bytes behind a row of the call's own. -/
theorem op_appB {o : Oper} {a : Act} {W : World} {K : Act → World → Prop} {Q : Exit → Act → World → Prop} (s x : Operand) (ho : o.op = .call { callee := .builtin .append, args := #[s, x], argTypes := #[32, 32] }) (B : Nat) (v y : Value) (l l2 : List UInt8) (hs : a.eval s = v) (h : BO W B v l) (hB : B ≤ W.heap.size) (hx : a.eval x = y) (h2 : BR W y l2) (hn : l2 ≠ []) (hl : l.length + l2.length < 50000000)
    (hk : ∀ v' W', BO W' B v' (l ++ l2) → Below B W W' → K (a.put o.dst v') W') : Oper.wp Try.prog o a W K Q := by
  obtain ⟨i0, a1, a2, a3, a4⟩ := info_parts infoB
  obtain ⟨p, c, rfl, q3⟩ := h2
  have hpos : 0 < l2.length := List.length_pos_iff.2 hn
  obtain ⟨g, off, rfl, hc⟩ := q3 hpos
  unfold BO at h
  obtain ⟨v', w', r1, r2, r3, _, r5⟩ := run_append_own_at (P := Try.prog) W B 32 o.type 5 i0 (.int .u8 0) 1 1 Try.underlying32 a1 a2 a3 a4 rfl (by omega) v l.length (bc l) h ⟨g, off, none⟩ l2.length c (bc l2) (by rw [bc_len]; omega) (fun j u hj => by
    have hlt : j < l2.length := by have := (List.getElem?_eq_some_iff.1 hj).1; rwa [bc_len] at this
    rw [bc_at hlt] at hj
    cases hj
    rw [Addr.add_mid]
    exact (hc j hlt).2) (by
    intro u hu
    obtain ⟨b, _, rfl⟩ := List.mem_map.1 hu
    rfl) (by unfold maxLen; omega) (by omega) hB
  unfold Oper.wp execOp
  simp only [ho, resolve, invoke, builtin, Sem.run_bind, Sem.run_pure, Result.andThen_ok, List.map_toArray, List.map_cons, List.map_nil, hs, hx, r1]
  exact hk v' w' (by unfold BO; rw [List.length_append, bc_app]; exact r2) ((Below.refl B W).grown r3 hB (fun k hk => (World.ownsRow.lt h k hk).1))
/-- An act's bytes. -/
def abt (a : Ac) : List UInt8 := if a.k = 4 then 0 :: a.s.data.toList else obt a.o
theorem ach_kind {a : Ac} (h : ach a = 0) : (a.k = 1 ∧ ochk a.o = 0 ∧ a.p = 0 ∧ a.s.toList = []) ∨ (a.k = 4 ∧ a.s.size ≤ 3000 ∧ a.p = 0 ∧ emp a.o = true) := by
  unfold ach at h
  by_cases h1 : a.k = 1
  · rw [if_pos h1] at h
    split at h
    · cases h
    · rename_i h2
      simp only [not_or, Decidable.not_not] at h2
      exact Or.inl ⟨h1, h, h2.1, h2.2⟩
  · rw [if_neg h1] at h
    by_cases h4 : a.k = 4
    · rw [if_pos h4] at h
      split at h
      · cases h
      · rename_i h2
        simp only [not_or, Decidable.not_not] at h2
        split at h
        · cases h
        · exact Or.inr ⟨h4, by omega, h2.1, by simpa using h2.2⟩
    · rw [if_neg h4] at h
      cases h
theorem abt_len {a : Ac} (h : ach a = 0) : 0 < (abt a).length ∧ (abt a).length ≤ 3001 := by
  unfold abt
  rcases ach_kind h with ⟨h1, h2, _⟩ | ⟨h1, h2, _⟩
  · rw [if_neg (by omega)]
    exact ⟨by unfold obt; simp, by have := obt_len h2; omega⟩
  · rw [if_pos h1]
    have : a.s.data.toList.length = a.s.size := Array.length_toList
    simp only [List.length_cons]
    omega
set_option maxHeartbeats 8000000 in
theorem tenc_any (a : Ac) (u : Value) (w : World) (hv : ValsAt w u a.o.l) :
    Calls Try.prog 32 #[acv a u] w fun e w' => ∃ v', e = .returned (.tuple #[v', .int .i64 (ach a)]) ∧ BO w' w.heap.size v' (if ach a = 0 then abt a else []) ∧ Below w.heap.size w w' := by
  have HV := hid hv
  have HC := hid (fun W (h : ValsAt W u a.o.l) => tcheck_any a u W h)
  have HE := hid (fun W (h : ValsAt W u a.o.l) => encode_any a.o u W h)
  have HK := hid (@ach_kind a)
  have HAB : Hid (∀ x, abt a = x → (if a.k = 4 then 0 :: a.s.data.toList else obt a.o) = x) := fun x h => h
  obtain ⟨q, cap, hu, hmx⟩ := hv.shape'
  subst hu
  obtain ⟨z, hz⟩ : ∃ z, ach a = z := ⟨_, rfl⟩
  rw [hz] at HC HK ⊢
  obtain ⟨y, hy⟩ : ∃ y, abt a = y := ⟨_, rfl⟩
  have HY := hid (HAB.out y hy)
  rw [hy]
  have HOZ : Hid (obz a.o = if ochk a.o = 0 then obt a.o else []) := rfl
  obtain ⟨k, ⟨ok, os, oa, ob, ol, od, oc⟩, p, src⟩ := a
  unfold acv at HC ⊢
  unfold opv at HE
  simp only at HC HE HV HK HY HOZ ⊢
  clear hv hz hmx hy HAB
  obtain ⟨n, hn⟩ : ∃ n, ol.length = n := ⟨_, rfl⟩
  rw [hn] at HC HE HV ⊢
  clear hn
  have HB0 : Hid (Below w.heap.size w (w.alloc (.cells #[.int .i64 k, .int .i64 ok, .string os, .int .i64 oa, .int .i64 ob, .slice q n cap, .int .i64 od, .bool oc, .int .i64 p, .string src] 28))) := (Below.refl _ _).alloc (Nat.le_refl _) _
  go_enter Try.func32, Try.ntmps32
  go_wp2_with fail
  refine (HC.out _ (HV.out.below HB0.out)).mono ?_
  rintro e w2 ⟨rfl, hb⟩
  have HB2 := hid (below_trans HB0.out hb (by simp))
  have x0 := (hb.cell (p := ⟨w.heap.size, 0, none⟩) (by simp)).trans (cell_new rfl rfl)
  have x1 := (hb.cell (p := ⟨w.heap.size, 1, none⟩) (by simp)).trans (cell_new rfl rfl)
  have x2 := (hb.cell (p := ⟨w.heap.size, 2, none⟩) (by simp)).trans (cell_new rfl rfl)
  have x3 := (hb.cell (p := ⟨w.heap.size, 3, none⟩) (by simp)).trans (cell_new rfl rfl)
  have x4 := (hb.cell (p := ⟨w.heap.size, 4, none⟩) (by simp)).trans (cell_new rfl rfl)
  have x5 := (hb.cell (p := ⟨w.heap.size, 5, none⟩) (by simp)).trans (cell_new rfl rfl)
  have x6 := (hb.cell (p := ⟨w.heap.size, 6, none⟩) (by simp)).trans (cell_new rfl rfl)
  have x7 := (hb.cell (p := ⟨w.heap.size, 7, none⟩) (by simp)).trans (cell_new rfl rfl)
  have x9 : w2.cell? ⟨w.heap.size, 9, none⟩ = some (.string src) := (hb.cell (p := ⟨w.heap.size, 9, none⟩) (by simp)).trans (cell_new rfl rfl)
  have x9' : ∀ o, (w2.alloc o).cell? ⟨w.heap.size, 9, none⟩ = some (.string src) := fun o => (World.cell?_alloc_past _ _ _ (by have := hb.size; simp at this; show w.heap.size < w2.heap.size; omega)).trans x9
  clear hb
  by_cases hz0 : z = 0
  · subst hz0
    rcases HK.out rfl with ⟨hk, hoc, _, _⟩ | ⟨hk, hsz, _, _⟩
    · have hk4 : (k == 4) = false := by rw [hk]; rfl
      have HOC := hid hoc
      have HK1 := hid hk
      clear hk hoc
      go_wp2_with fail
      refine (HE.out _ (HV.out.below HB2.out)).mono ?_
      rintro e w3 ⟨v', rfl, ho, hb⟩
      obtain ⟨p1, n1, m1, hsh⟩ := ho.shape3
      subst hsh
      rw [HOZ.out, if_pos HOC.out] at ho
      have ho' : BO w3 w2.heap.size (.slice p1 n1 m1) y := by have h := HY.out; rw [if_neg (by rw [HK1.out]; decide)] at h; rw [← h]; exact ho
      have HO3 := hid ho'
      have HB3 := hid (below_trans HB2.out hb HB2.out.size)
      rw [HOC.out]
      clear ho ho' hb x0 x1 x2 x3 x4 x5 x6 x7 x9 x9'
      go_wp2
      go_ret2
      exact ⟨_, rfl, HO3.out.weak HB2.out.size, HB3.out⟩
    · subst hk
      have HSZ := hid hsz
      clear hsz
      go_wp2_with (at_builtin; go_loud (refine wp_pushS (by rfl) _ _ (by rfl) _ w2.heap.size _ [0] (by rfl) (BO.one w2 w2.heap.size 0 _ (by rfl) (Nat.le_refl _)) src (by rfl) (by have := HSZ.out; simp; omega) (by simp) ?_); intro v3 w3 ho hb; have HO3 := hid ho; have HB3 := hid (below_trans HB2.out (below_trans ((Below.refl w2.heap.size w2).alloc (Nat.le_refl _) _) hb (Nat.le_refl _)) HB2.out.size); obtain ⟨p1, n1, m1, hsh⟩ := ho.shape3; subst hsh; clear ho hb)
      go_ret2
      have hh := HY.out
      rw [if_pos trivial] at hh
      exact ⟨_, rfl, by rw [← hh]; exact HO3.out.weak HB2.out.size, HB3.out⟩
  · have hzb : (z != 0) = true := by simpa using hz0
    have hz1 := hz0
    clear x0 x1 x2 x3 x4 x5 x6 x7 x9 x9' hz0
    go_wp2
    go_ret2
    exact ⟨.slice none 0 0, rfl, BO.nil _ _, HB2.out⟩
end Go.Proofs.Ytepgkemnpcadiaa
