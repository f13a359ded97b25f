/-
  What books that were read are like; elements of rows, one by one.
-/
import Derived.Test.YtnlmkdncifijlaaDoorZr
import Derived.Test.YtnlmkdncifijlaaDoorPa
namespace Go.Proofs.YtnlmkdncifijlaaDoor.Ref
open Go.ChangeShapes Go.WideShapes Go.ChangeAt Go.RowKit Go.Maps
set_option linter.unusedVariables false
set_option linter.unusedSimpArgs false
set_option maxRecDepth 20000
/-- A condition whose parts are conditions. -/
inductive Wfc : Cn → Prop
  | mk (c : Cn) (cs : List Cn) : c.sb = cs.map encC → (∀ x, x ∈ cs → Wfc x) → Wfc c
theorem wfc_nil {c : Cn} (h : c.sb = []) : Wfc c := .mk c [] h (fun x hx => by cases hx)
theorem cmf_wf (L : List Tk) (l : Opd) (s : St) : ∀ m, Wfc (cmf L l s m).1
  | [] => wfc_nil rfl
  | c :: r => by
    unfold cmf
    split
    · split
      · exact wfc_nil rfl
      · exact wfc_nil rfl
    · exact cmf_wf L l s r
theorem cmp_wf (L : List Tk) (s : St) : Wfc (cmp L s).1 := cmf_wf L _ _ _
theorem sep_all {α : Type} {Q : α → Prop} (L : List Tk) (w : List UInt8) {p : St → α × St} (hp : ∀ s, Q (p s).1) : ∀ n s l, (∀ x, x ∈ l → Q x) → ∀ x, x ∈ (sep L w p n s l).1 → Q x
  | 0, s, l, h => h
  | n + 1, s, l, h => by
    unfold sep
    split
    · refine sep_all L w hp n _ _ fun x hx => ?_
      rcases List.mem_append.1 hx with c | c
      · exact h x c
      · rw [List.mem_singleton.1 c]; exact hp _
    · exact h
theorem one_wf (k : Int) : ∀ (l : List Cn), (∀ x, x ∈ l → Wfc x) → Wfc (one k l)
  | [c], h => h c (by simp)
  | [], h => .mk _ [] rfl (fun x hx => by cases hx)
  | a :: b :: r, h => .mk _ (a :: b :: r) rfl h
theorem jnd_wf (L : List Tk) (k : Int) (w : List UInt8) {p : St → Cn × St} (hp : ∀ s, Wfc (p s).1) (s : St) : Wfc (jnd L k w p s).1 :=
  one_wf k _ (sep_all L w hp _ _ _ fun x hx => by rw [List.mem_singleton.1 hx]; exact hp s)
theorem orr_wf (L : List Tk) {p : St → Cn × St} (hp : ∀ s, Wfc (p s).1) (s : St) : Wfc (orr L p s).1 := jnd_wf L _ _ (jnd_wf L _ _ hp) s
theorem ntt_wf (L : List Tk) : ∀ n s, Wfc (ntt L n s).1
  | 0, s => cmp_wf L _
  | n + 1, s => by
    unfold ntt
    split
    · exact .mk _ [_] rfl (fun x hx => by rw [List.mem_singleton.1 hx]; exact ntt_wf L n _)
    · split
      · exact orr_wf L (ntt_wf L n) _
      · exact cmp_wf L _
theorem pat_wf (L : List Tk) (s : St) : Wfc (pat L s).1.c := by
  unfold pat
  simp only
  split
  · exact orr_wf L (ntt_wf L 7) _
  · exact wfc_nil rfl
theorem whn_wf (L : List Tk) (s : St) : Wfc (whn' L s).1.c := by
  unfold whn'
  simp only
  split
  · exact pat_wf L s
  · exact pat_wf L s
theorem mny_wf (L : List Tk) (s : St) : Wfc (mny L s).1.p.c := by
  unfold mny
  simp only
  first
  | exact pat_wf L _
  | (split <;> first | exact pat_wf L _ | exact wfc_nil rfl)
/-- A rule whose conditions are so. -/
def WfR (r : Rl) : Prop := (∀ t, t ∈ r.w → Wfc t.c) ∧ (∀ t, t ∈ r.t → Wfc t.c) ∧ (∀ m, m ∈ r.m → Wfc m.p.c)
theorem mem_snoc {α : Type} {Q : α → Prop} {l : List α} {a : α} (h : ∀ x, x ∈ l → Q x) (ha : Q a) : ∀ x, x ∈ l ++ [a] → Q x := fun x hx => by
  rcases List.mem_append.1 hx with c | c
  · exact h x c
  · rw [List.mem_singleton.1 c]; exact ha
theorem cla_wf (L : List Tk) (u : Rl) (s : St) (h : WfR u) : WfR (cla' L u s).1 := by
  unfold cla'
  split
  · exact ⟨mem_snoc h.1 (whn_wf L _), h.2.1, h.2.2⟩
  · split
    · exact ⟨h.1, mem_snoc h.2.1 (pat_wf L _), h.2.2⟩
    · split
      · exact ⟨h.1, h.2.1, mem_snoc h.2.2 (mny_wf L _)⟩
      · split
        · exact h
        · split
          · exact h
          · exact h
theorem rlp_wf (L : List Tk) : ∀ n u s, WfR u → WfR (rlp' L n u s).1
  | 0, u, s, h => h
  | n + 1, u, s, h => by
    unfold rlp'
    split
    · split
      · exact h
      · exact rlp_wf L n _ _ (cla_wf L u s h)
    · exact h
theorem rle_wf (L : List Tk) (s : St) : WfR (rle' L s).1 := rlp_wf L _ _ _ ⟨fun _ h => (by cases h), fun _ h => (by cases h), fun _ h => (by cases h)⟩
theorem bkp_wf (L : List Tk) : ∀ n b s, (∀ r, r ∈ b.r → WfR r) → ∀ r, r ∈ (bkp' L n b s).1.r → WfR r
  | 0, b, s, h => h
  | n + 1, b, s, h => by
    unfold bkp'
    split
    · split
      · exact bkp_wf L n _ _ h
      · split
        · exact bkp_wf L n _ _ (mem_snoc h (rle_wf L _))
        · exact bkp_wf L n _ _ h
    · exact h
theorem prs_wf (L : List Tk) : ∀ r, r ∈ (prs' L).1.r → WfR r := by
  unfold prs'
  split
  · exact fun r h => by cases h
  · split
    · exact fun r h => by cases h
    · split
      · exact bkp_wf L _ _ _ (fun r h => by cases h)
      · exact fun r h => by cases h
theorem HoldsL.drop {w : World} {S : Nat → Prop} : ∀ (k : Nat) {ds : List Dat} {vs : List Value}, HoldsL w S ds vs → HoldsL w S (ds.drop k) (vs.drop k)
  | 0, ds, vs, h => by simpa using h
  | k + 1, [], vs, h => by rw [_root_.Go.Proofs.YtnlmkdncifijlaaDoor.HoldsL.none h]; simpa using _root_.Go.Proofs.YtnlmkdncifijlaaDoor.HoldsL.nil w S
  | k + 1, d :: ds, vs, h => by
    obtain ⟨v, r, rfl, _, h2⟩ := _root_.Go.Proofs.YtnlmkdncifijlaaDoor.HoldsL.one h
    simpa using HoldsL.drop k h2
theorem flat_drop {α : Type} {enc : α → List Dat} {z : Nat} (hz : ∀ x, (enc x).length = z) : ∀ (cs : List α) (k : Nat) (hk : k < cs.length), (cs.map enc).flatten.drop (k * z) = enc cs[k] ++ ((cs.drop (k + 1)).map enc).flatten
  | c :: r, 0, _ => by simp
  | c :: r, k + 1, hk => by
    have ih := flat_drop hz r k (by simpa using hk)
    simp only [List.map_cons, List.flatten_cons, List.getElem_cons_succ, List.drop_succ_cons]
    rw [show (k + 1) * z = z + k * z by rw [Nat.add_mul, Nat.one_mul, Nat.add_comm], ← List.drop_drop, List.drop_left' (hz c)]
    exact ih
/-- A row of elements, one by one. -/
theorem row_of {α : Type} {enc : α → List Dat} {e z : Nat} (hz : ∀ x, (enc x).length = z) {w : World} {S : Nat → Prop} {v : Value} {cs : List α} (h : Holds w S (.row e z (cs.map enc)) v) : ∃ p cap, v = .slice p cs.length cap ∧ cs.length ≤ cap ∧ cap ≤ maxLen ∧ (0 < cs.length → ∃ ga, p = some ⟨ga, 0, none⟩ ∧ ga < w.heap.size ∧ ∀ k (hk : k < cs.length), ∃ us, w.rangeAt ga (k * z) us ∧ HoldsL w S (enc cs[k]) us) := by
  cases h with
  | row _ _ _ _ xs h1 h2 h3 h4 =>
    have hc := h1
    rw [List.length_map] at h1
    rcases h1.2 with ⟨rfl, h5⟩ | ⟨ga, cap, cur, rfl, _, _, hn, hx, _⟩
    · exact ⟨none, 0, by rw [h5], by omega, Nat.zero_le _, fun h0 => by omega⟩
    · refine ⟨some ⟨ga, 0, none⟩, cap, rfl, hn, hx, fun h0 => ⟨ga, rfl, (own_block_some hc rfl).2, fun k hk => ?_⟩⟩
      have hl : HoldsL w S (cs.map enc).flatten xs := ⟨h3, h4⟩
      have hd := HoldsL.drop (k * z) hl
      rw [flat_drop hz cs k hk] at hd
      obtain ⟨us, rs, e, q1, q2⟩ := _root_.Go.Proofs.YtnlmkdncifijlaaDoor.HoldsL.split hd
      refine ⟨us, fun j u hu => ?_, q1⟩
      have hj : j < us.length := (List.getElem?_eq_some_iff.1 hu).1
      have h9 : xs[k * z + j]? = some u := by
        rw [← List.getElem?_drop, e, List.getElem?_append_left hj]
        exact hu
      have := hc.cells (g := ga) rfl (k * z + j) u h9
      rw [Addr.add_mid] at this
      simpa using this
theorem encP_cells {w : World} {S : Nat → Prop} {t : Pt} {vs : List Value} (h : HoldsL w S (encP t) vs) : ∃ p cap, vs = ptC t.va t.ty t.c.k (.slice p t.c.sb.length cap) t.c.l t.c.r t.w t.n ∧ Holds w S (.row 52 14 t.c.sb) (.slice p t.c.sb.length cap) := by
  obtain ⟨v0, r0, rfl, h0, h⟩ := h.one
  obtain ⟨v1, r1, rfl, h1, h⟩ := h.one
  obtain ⟨us, rs, rfl, h2, h3⟩ := h.split
  obtain ⟨p, cap, rfl, h4⟩ := encC_cells h2
  obtain ⟨v2, r2, rfl, h5, h3⟩ := h3.one
  obtain ⟨v3, r3, rfl, h6, h3⟩ := h3.one
  rw [lit_out h0, lit_out h1, lit_out h5, lit_out h6, h3.none]
  exact ⟨p, cap, rfl, h4⟩
end Go.Proofs.YtnlmkdncifijlaaDoor.Ref
