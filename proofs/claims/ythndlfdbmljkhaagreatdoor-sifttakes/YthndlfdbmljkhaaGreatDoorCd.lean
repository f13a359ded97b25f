/-
  Sides and conditions, by the reference.
-/
import Derived.Test.YthndlfdbmljkhaaGreatDoorCc
namespace Go.Proofs.YthndlfdbmljkhaaGreatDoor.Chk
open Go.ChangeShapes Go.WideShapes Go.ChangeAt Go.RowKit Go.Maps
set_option linter.unusedVariables false
set_option linter.unusedSimpArgs false
set_option maxRecDepth 20000
theorem fck_none {fs : List Fd} {n : ByteArray} (h : fdq fs n = -1) : fck fs n = (0, 6) := by
  unfold fck
  rw [if_pos (by rw [h]; decide)]
theorem fck_some {fs : List Fd} {n : ByteArray} {j : Nat} (hj : j < fs.length) (h : fdq fs n = (j : Int)) : fck fs n = (fs[j].k, 0) := by
  unfold fck
  rw [if_neg (by rw [h]; omega), h]
  simp [hj]
/-- Each pattern is of a type that there is. -/
def Known (ts : List Tp) (kn : List Pt) : Prop := ∀ j (hj : j < kn.length), ∃ i, ∃ _ : i < ts.length, tyq ts kn[j].ty = (i : Int)
theorem sideKind_any (ts : List Tp) (kn : List Pt) (own : Tp) (o : Opd) (tv kv fv : Value) (w : World) (hT : Rd w (.row 72 2 (ts.map encY)) tv) (hK : Rd w (.row 65 18 (kn.map encP)) kv) (hF : Rd w (.row 93 2 (own.f.map encF)) fv) (hkn : Known ts kn) :
    Calls Tryz.prog 125 #[tv, kv, .agg #[.string own.n, fv], opV o] w fun e w' => e = .returned (.tuple #[.int .i64 (sdk ts kn own o).1, .int .i64 (sdk ts kn own o).2]) ∧ Below w.heap.size w w' := by
  obtain ⟨tp, tc, e1, _, _⟩ := rd_row lenY hT
  obtain ⟨kp, kc, e2, _, _⟩ := rd_row lenP hK
  obtain ⟨fp, fc, e3, _, _⟩ := rd_row lenF hF
  subst e1 e2 e3
  obtain ⟨tn, tf⟩ := own
  obtain ⟨ok, ovk, ovi, ovt, ova, ofd⟩ := o
  simp only at hF ⊢
  unfold sdk opV
  simp only
  by_cases hk : 1 ≤ ok ∧ ok ≤ 3
  · rw [if_neg (fun c => c hk)]
    by_cases h1 : ok = 1
    · rw [if_pos h1]
      cases hv : emp ova
      · rw [if_pos (.inl rfl)]
        exact side_c1 ts kn tn tf ok ovk ovi ovt ova ofd tp kp fp _ tc _ kc _ fc w h1 hv
      · cases hf : emp ofd
        · rw [if_pos (.inr rfl)]
          exact side_c2 ts kn tn tf ok ovk ovi ovt ova ofd tp kp fp _ tc _ kc _ fc w h1 hv hf
        · rw [if_neg (by simp)]
          exact side_const ts kn tn tf ok ovk ovi ovt ova ofd tp kp fp _ tc _ kc _ fc w h1 hv hf
    · rw [if_neg h1]
      by_cases h2 : ok = 2
      · rw [if_pos h2]
        cases hv : emp ova
        · rw [if_pos (.inl rfl)]
          exact side_o1 ts kn tn tf ok ovk ovi ovt ova ofd tp kp fp _ tc _ kc _ fc w h2 hv
        · by_cases z1 : ovk = 0
          · by_cases z2 : ovi = 0
            · cases z3 : emp ovt
              · rw [if_pos (.inr (by simp [nzv, z3]))]
                exact side_o4 ts kn tn tf ok ovk ovi ovt ova ofd tp kp fp _ tc _ kc _ fc w h2 hv z1 z2 z3
              · rw [if_neg (by simp [nzv, z1, z2, z3])]
                rcases ixq_lt (q := fun f : Fd => seq f.n ofd) tf 0 with c | ⟨j, hj, c, _⟩
                · rw [fck_none c]
                  exact side_own0 ts kn tn tf ok ovk ovi ovt ova ofd tp kp fp _ tc _ kc _ fc w h2 hv z1 z2 z3 hF c
                · have c' : fdq tf ofd = (j : Int) := by show ixq _ _ _ = _; rw [c]; simp
                  rw [fck_some hj c']
                  exact side_own1 ts kn tn tf ok ovk ovi ovt ova ofd tp kp fp _ tc _ kc _ fc w h2 hv z1 z2 z3 hF j hj c' _ rfl
            · rw [if_pos (.inr (by simp [nzv, z2]))]
              exact side_o3 ts kn tn tf ok ovk ovi ovt ova ofd tp kp fp _ tc _ kc _ fc w h2 hv z1 z2
          · rw [if_pos (.inr (by simp [nzv, z1]))]
            exact side_o2 ts kn tn tf ok ovk ovi ovt ova ofd tp kp fp _ tc _ kc _ fc w h2 hv z1
      · rw [if_neg h2]
        have h3 : ok = 3 := by omega
        rcases ixq_lt (q := fun p : Pt => seq p.va ova) kn 0 with c | ⟨j, hj, c, _⟩
        · have c0 : ptq kn ova = -1 := c
          rw [if_pos (by rw [c0]; decide)]
          exact side_oth0 ts kn tn tf ok ovk ovi ovt ova ofd tp kp fp _ tc _ kc _ fc w h3 hK c0
        · have c' : ptq kn ova = (j : Int) := by show ixq _ _ _ = _; rw [c]; simp
          rw [if_neg (by rw [c']; omega)]
          obtain ⟨i, hi, hq⟩ := hkn j hj
          have hto : tyOf ts kn ova = ts[i] := by
            unfold tyOf
            rw [c']
            simp [hj, hq, hi]
          obtain ⟨⟨tn2, tf2⟩, ht2⟩ : ∃ t, ts[i] = t := ⟨_, rfl⟩
          rw [hto, ht2]
          simp only
          by_cases z1 : ovk = 0
          · by_cases z2 : ovi = 0
            · cases z3 : emp ovt
              · rw [if_pos (by simp [nzv, z3])]
                exact side_oth1c ts kn tn tf ok ovk ovi ovt ova ofd tp kp fp _ tc _ kc _ fc w h3 hK hT j hj c' _ rfl i hi hq tn2 tf2 ht2 z1 z2 z3
              · rw [if_neg (by simp [nzv, z1, z2, z3])]
                rcases ixq_lt (q := fun f : Fd => seq f.n ofd) tf2 0 with d | ⟨q, hq9, d, _⟩
                · rw [fck_none d]
                  exact side_oth2 ts kn tn tf ok ovk ovi ovt ova ofd tp kp fp _ tc _ kc _ fc w h3 hK hT j hj c' _ rfl i hi hq tn2 tf2 ht2 z1 z2 z3 d
                · have d' : fdq tf2 ofd = (q : Int) := by show ixq _ _ _ = _; rw [d]; simp
                  rw [fck_some hq9 d']
                  exact side_oth3 ts kn tn tf ok ovk ovi ovt ova ofd tp kp fp _ tc _ kc _ fc w h3 hK hT j hj c' _ rfl i hi hq tn2 tf2 ht2 z1 z2 z3 q hq9 d' _ rfl
            · rw [if_pos (by simp [nzv, z2])]
              exact side_oth1b ts kn tn tf ok ovk ovi ovt ova ofd tp kp fp _ tc _ kc _ fc w h3 hK hT j hj c' _ rfl i hi hq tn2 tf2 ht2 z1 z2
          · rw [if_pos (by simp [nzv, z1])]
            exact side_oth1a ts kn tn tf ok ovk ovi ovt ova ofd tp kp fp _ tc _ kc _ fc w h3 hK hT j hj c' _ rfl i hi hq tn2 tf2 ht2 z1
  · rw [if_pos hk]
    exact side_bad ts kn tn tf ok ovk ovi ovt ova ofd tp kp fp _ tc _ kc _ fc w hk
end Go.Proofs.YthndlfdbmljkhaaGreatDoor.Chk
