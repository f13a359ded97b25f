/-
  A reader of bytes: values.
-/
import Derived.Test.YtepgkemnpcadiabWs
namespace Go.Proofs.Ytepgkemnpcadiab
open Go.ChangeShapes Go.WideShapes Go.ChangeAt Go.RowKit Go.Maps
set_option linter.unusedVariables false
set_option linter.unusedSimpArgs false
set_option maxRecDepth 20000
def encV (v : Vl) : List Value := [.int .i64 v.k, .int .i64 v.n, .string v.s]
theorem length_flatV (l : List Vl) : (l.flatMap encV).length = l.length * 3 := by
  induction l with
  | nil => rfl
  | cons t r ih => rw [List.flatMap_cons, List.length_append, ih]; simp [encV]; omega
theorem flatV_at : ∀ (l : List Vl) (j : Nat) (hj : j < l.length), (l.flatMap encV)[j * 3]? = some (.int .i64 l[j].k) ∧ (l.flatMap encV)[j * 3 + 1]? = some (.int .i64 l[j].n) ∧ (l.flatMap encV)[j * 3 + 2]? = some (.string l[j].s)
  | [], j, h => by simp at h
  | t :: r, 0, h => by simp [encV]
  | t :: r, j + 1, h => by
    have hl : (encV t).length = 3 := rfl
    obtain ⟨h1, h2, h3⟩ := flatV_at r j (by simpa using h)
    rw [List.flatMap_cons]
    refine ⟨?_, ?_, ?_⟩
    · rw [List.getElem?_append_right (by omega), show (j + 1) * 3 - (encV t).length = j * 3 by rw [hl]; omega]; exact h1
    · rw [List.getElem?_append_right (by omega), show (j + 1) * 3 + 1 - (encV t).length = j * 3 + 1 by rw [hl]; omega]; exact h2
    · rw [List.getElem?_append_right (by omega), show (j + 1) * 3 + 2 - (encV t).length = j * 3 + 2 by rw [hl]; omega]; exact h3
/-- A row of values of the call's own. -/
def VO (w : World) (B : Nat) (v : Value) (l : List Vl) : Prop := w.ownsRow B 73 3 v l.length (l.flatMap encV)
theorem VO.nil (w : World) (B : Nat) : VO w B (.slice none 0 0) [] := World.ownsRow_nil _ _ _ _
theorem VO.va {w : World} {B : Nat} {v : Value} {l : List Vl} (h : VO w B v l) : ValsAt w v l := by
  have h0 := h
  unfold VO at h
  rcases h.2 with ⟨h1, h2⟩ | ⟨g, cap, cur, rfl, h1, h2, h3, h4, _⟩
  · exact ⟨none, 0, by rw [h1, h2], by omega, Nat.zero_le _, fun c => by omega⟩
  · have hlt := (Array.getElem?_eq_some_iff.1 h2).1
    refine ⟨_, cap, rfl, h3, h4, fun _ => ⟨g, 0, rfl, fun j hj => ?_⟩⟩
    obtain ⟨q0, q1, q2⟩ := flatV_at l j hj
    rw [Nat.zero_add]
    refine ⟨hlt, ?_, ?_, ?_⟩ <;> rw [h.cellAt _ (by omega)] <;> assumption
theorem VO.shape3 {w : World} {B : Nat} {v : Value} {l : List Vl} (h : VO w B v l) : ∃ p n cap, v = .slice p n cap := by
  obtain ⟨p, cap, h, _⟩ := h.va
  exact ⟨p, _, cap, h⟩
theorem VO.kept {w w' : World} {B : Nat} {v : Value} {l : List Vl} (h : VO w B v l) (hb : ∀ k, B ≤ k → k < w.heap.size → w'.heap[k]? = w.heap[k]?) : VO w' B v l := by
  unfold VO at *
  refine ⟨h.1, ?_⟩
  rcases h.2 with h2 | ⟨g, cap, cur, rfl, h1, h2, h3⟩
  · exact Or.inl h2
  · exact Or.inr ⟨g, cap, cur, rfl, h1, (hb g h1 (Array.getElem?_eq_some_iff.1 h2).1).trans h2, h3⟩
theorem VO.weak {w : World} {B B' : Nat} {v : Value} {l : List Vl} (h : VO w B v l) (hb : B' ≤ B) : VO w B' v l := by
  unfold VO at *
  refine ⟨h.1, ?_⟩
  rcases h.2 with h2 | ⟨g, cap, cur, rfl, h1, h2, h3⟩
  · exact Or.inl h2
  · exact Or.inr ⟨g, cap, cur, rfl, by omega, h2, h3⟩
theorem VO.gb {w w' : World} {B R : Nat} {v : Value} {l : List Vl} (h : VO w B v l) (g : Gb w R w') (hR : R < B) : VO w' B v l := h.kept (fun k hk hl => g.block k hl (by simp; omega))
theorem VO.set {w : World} {B b i : Nat} {v u : Value} {l : List Vl} (h : VO w B v l) (hb : b < B) : VO (w.setCell ⟨b, i, none⟩ u) B v l := h.kept (fun k hk hl => heap_other u (by omega))
theorem infoV : (Try.prog.info? 73).map (fun i => (i.zero, i.size, i.bytes)) = some (some (.agg #[.int .i64 0, .int .i64 0, .string ByteArray.empty]), 3, 32) := by kernel_rfl
theorem news_V (W : World) (v : Vl) (t : TypeId) : ∀ (j : Nat) (u : Value), (encV v)[j]? = some u → (W.alloc (.cells #[.int .i64 v.k, .int .i64 v.n, .string v.s] t)).cell? ((⟨W.heap.size, 0, none⟩ : Addr).add j) = some u := by
  intro j u hj
  rw [show (⟨W.heap.size, 0, none⟩ : Addr).add j = ⟨W.heap.size, j, none⟩ by rw [Addr.add_mid, Nat.zero_add]]
  exact cell_new rfl (by
    match j, hj with
    | 0, hj => simpa [encV] using hj
    | 1, hj => simpa [encV] using hj
    | 2, hj => simpa [encV] using hj)
/-- One value behind a row. -/
theorem wp_pushV {ops : Array Oper} {rest : List Oper} {o : Oper} {a : Act} {Q : Exit → Act → World → Prop} (hgd : o.guard = none) (s x : Operand)
    (ho : o.op = .call { callee := .builtin .append, args := #[s, x], argTypes := #[42, 42] }) (W : World) (B : Nat) (v : Value) (l : List Vl) (hs : a.eval s = v) (h : VO W B v l)
    {gx : Nat} (hx : a.eval x = .slice (some ⟨gx, 0, none⟩) 1 1) (hgx : gx = W.heap.size) (c : Vl) (hl : l.length < 100000) (hB : B ≤ W.heap.size)
    (k : ∀ v' w', VO w' B v' (l ++ [c]) → Grw W v w' v' → wpList Try.prog ops Q rest (a.put o.dst v') w') :
    wpList Try.prog ops Q (o :: rest) a (W.alloc (.cells #[.int .i64 c.k, .int .i64 c.n, .string c.s] 73)) := by
  subst hgx
  obtain ⟨i0, a1, a2, a3, a4⟩ := info_parts infoV
  refine wpList_append_own_at _ hgd s x 42 ho B 73 i0 (.agg #[.int .i64 0, .int .i64 0, .string ByteArray.empty]) 3 32 Try.underlying42 a1 a2 a3 a4 rfl (by omega) v l.length (l.flatMap encV) hs (World.ownsRow.alloc h _) ⟨W.heap.size, 0, none⟩ 1 1 (encV c) hx (by rfl) (news_V W c _) (by simp [encV, Value.oneCell']) (by unfold maxLen; omega) (by omega) (by simp; omega) ?_
  intro v' w' hown hgrow _ hat
  refine k v' w' (by unfold VO; rw [List.length_append, List.flatMap_append]; simpa using hown) ?_
  have ha := World.grownBy_alloc W (.cells #[.int .i64 c.k, .int .i64 c.n, .string c.s] 73) v.ownBlock
  refine ⟨⟨hgrow.os.trans ha.os, hgrow.tape.trans ha.tape, hgrow.output.trans ha.output, Nat.le_trans ha.size hgrow.size, fun k hk hne => (hgrow.block k (Nat.lt_of_lt_of_le hk ha.size) hne).trans (ha.block k hk hne)⟩, fun k hk => ?_⟩
  rcases hat with h3 | h3
  · exact Or.inl (h3 ▸ hk)
  · rw [h3] at hk
    cases hk
    exact Or.inr ha.size
theorem Gb.grow {w w2 w3 : World} {R : Nat} {v v' : Value} {l : List Vl} (h : Gb w R w2) (g : Grw w2 v w3 v') (hv : VO w2 w.heap.size v l) : Gb w R w3 :=
  ⟨g.1.os.trans h.os, g.1.tape.trans h.tape, g.1.output.trans h.output, Nat.le_trans h.size g.1.size, fun k hk hne => (g.1.block k (Nat.lt_of_lt_of_le hk h.size) (fun e => by have := (World.ownsRow.lt hv k e.symm).1; omega)).trans (h.block k hk hne)⟩
theorem RA.grow {w2 w3 : World} {R B : Nat} {v v' : Value} {l : List Vl} {s : Sx} (h : RA w2 R s) (g : Grw w2 v w3 v') (hv : VO w2 B v l) (hB : R < B) : RA w3 R s :=
  h.kept (fun k hk => g.1.block k (by have := h.lt; omega) (fun e => by have := (World.ownsRow.lt hv k e.symm).1; omega))
def vsL : Nat → Sx → List Vl → List Vl × Sx
  | 0, s, acc => (acc, s)
  | k + 1, s, acc => if s.e = 0 then vsL k (vlS s) (acc ++ [vlV s]) else (acc, s)
def vsR (s : Sx) : List Vl × Sx := vsL (smV s) (smS s) []
theorem meas1 {k : Nat} {x y : Int} (h : x = k) (h2 : y = (k : Int) + 1) : (intOf (.int .i64 x)).toNat < (intOf (.int .i64 y)).toNat := by
  show x.toNat < y.toNat
  omega
set_option maxHeartbeats 8000000 in
theorem values_any (R : Nat) (s : Sx) (w : World) (h : RA w R s) :
    Calls Try.prog 47 #[.pointer (some ⟨R, 0, none⟩)] w fun e w' => ∃ u, e = .returned u ∧ VO w' w.heap.size u (vsR s).1 ∧ RA w' R (vsR s).2 ∧ Gb w R w' := by
  have HC := hid (small_any R s w h)
  have HLT := hid h.lt
  obtain ⟨c, hc⟩ : ∃ c, smV s = c := ⟨_, rfl⟩
  obtain ⟨t, ht⟩ : ∃ t, smS s = t := ⟨_, rfl⟩
  obtain ⟨z, hz⟩ : ∃ z, vsR s = z := ⟨_, rfl⟩
  have HZ : Hid (vsL c t [] = z) := by rw [← hz, ← hc, ← ht]; rfl
  have hc256 : c < 256 := by rw [← hc]; exact smV_lt s
  rw [hc, ht] at HC
  rw [hz]
  clear h hc ht hz
  go_enter Try.func47, Try.ntmps47
  go_wp2_with fail
  refine HC.out.mono ?_
  rintro e2 w2 ⟨rfl, hr, hg⟩
  have HR2 := hid hr
  have HG2 := hid hg
  clear hr hg
  go_wp2_with fail
  go_loopw [3, 4] (fun u i wr => ∃ (k : Nat) (t' : Sx) (acc : List Vl), i = .int .i64 k ∧ k + acc.length ≤ 256 ∧ VO wr w.heap.size u acc ∧ RA wr R t' ∧ Gb w R wr ∧ vsL k t' acc = z) (fun _ i _ => (intOf i).toNat)
  case atStart => exact ⟨c, t, [], rfl, by simp; omega, VO.nil _ _, HR2.out, HG2.out, HZ.out⟩
  case round =>
    obtain ⟨k, t', acc, rfl, hk, hv, hr, hg, hz⟩ := hrel
    obtain ⟨p5, n5, c5, hsh⟩ := hv.shape3
    subst hsh
    have HV := hid hv
    have HR := hid hr
    have HG := hid hg
    have HZZ := hid hz
    have HK := hid hk
    obtain ⟨pr, cr, h1, _, _, _⟩ := hr.ex
    have c1 := row_cell (j := 1) h1 rfl
    clear hv hr hg hz h1
    obtain ⟨l, e⟩ := t'
    simp only at c1
    match k with
    | 0 =>
      clear hk
      go_wp2
      go_ret
      refine ⟨_, rfl, ?_, ?_, HG.out⟩
      · rw [← HZZ.out]; exact HV.out
      · rw [← HZZ.out]; exact HR.out
    | k + 1 =>
      have hki : (0 : Int) < ((k + 1 : Nat) : Int) := by omega
      have hki2 : (0 : Int) < (k : Int) + 1 := by omega
      have hwk : wrap64 (k : Int) = (k : Int) := by unfold wrap64; omega
      by_cases he : e = 0
      · subst he
        have HVS : Hid (vsL k (vlS ⟨l, 0⟩) (acc ++ [vlV ⟨l, 0⟩]) = z) := by rw [← HZZ.out]; rfl
        clear hk
        go_wp2_with fail
        refine (value_any R ⟨l, 0⟩ _ HR.out).mono ?_
        rintro e3 w3 ⟨rfl, hr3, hg3⟩
        have HR3 := hid hr3
        have HG3 := hid (HG.out.trans hg3)
        have HV3 := hid (HV.out.gb hg3 HLT.out)
        have HSZ := hid (HG3.out.size)
        obtain ⟨q, hq⟩ : ∃ q, vlV ⟨l, 0⟩ = q := ⟨_, rfl⟩
        rw [hq] at HVS ⊢
        clear hr3 hg3 hq c1
        unfold vV
        go_wp2_with (at_builtin; go_loud (refine wp_pushV (by rfl) _ _ (by rfl) w3 w.heap.size _ acc (by rfl) HV3.out (by rfl) (by first | rfl | simp) q (by have := HK.out; omega) HSZ.out ?_); intro v6 w6 hown hbl; have HV6 := hid hown; have HR6 := hid (HR3.out.grow hbl HV3.out HLT.out); have HG6 := hid (HG3.out.grow hbl HV3.out); obtain ⟨pv6, nv6, cv6, hvv⟩ := hown.shape3; subst hvv; clear hown hbl)
        go_roundw
        case rel => exact ⟨k, _, acc ++ [q], by go_num, by have := HK.out; simp; omega, HV6.out, HR6.out, HG6.out, HVS.out⟩
        case measure => exact meas1 (k := k) (by first | rfl | exact hwk) (by first | rfl | omega)
      · have heb : (e == 0) = false := by simpa using he
        clear hk
        go_wp2
        go_ret
        have hx : vsL (k + 1) ⟨l, e⟩ acc = (acc, ⟨l, e⟩) := by show (if e = 0 then _ else _) = _; rw [if_neg he]
        refine ⟨_, rfl, ?_, ?_, HG.out⟩
        · rw [← HZZ.out, hx]; exact HV.out
        · rw [← HZZ.out, hx]; exact HR.out
end Go.Proofs.Ytepgkemnpcadiab
