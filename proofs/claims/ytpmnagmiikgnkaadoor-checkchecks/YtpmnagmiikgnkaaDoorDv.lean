/-
  A book that came in: what lies in memory.
-/
import Derived.Test.YtpmnagmiikgnkaaDoorDu
import Derived.Test.YtpmnagmiikgnkaaDoorFr
namespace Go.Proofs.YtpmnagmiikgnkaaDoor.Chk
open Go.Deep Go.ChangeShapes Go.WideShapes Go.ChangeAt Go.RowKit Go.Maps
set_option linter.unusedVariables false
set_option linter.unusedSimpArgs false
set_option maxRecDepth 20000
variable {H : Type} {enc : TypeId × Value → H} {W : World} {base b0 : Nat} {r : Reach} {spare : Nat → Bool} {held : Bool} {v : Value} {d : DataW H} {p : List MemPlace}
/-- What may be read by so many steps. -/
def Tr (enc : TypeId × Value → H) (W : World) (base : Nat) (spare : Nat → Bool) (held : Bool) (n : Nat) (t : TypeId) (cs : List Value) : Prop := ∃ x, DataW.trod enc Tryd.prog W base spare held n t cs = some x
theorem tr_int {n : Nat} {cs : List Value} (h : Tr enc W base spare held n 3 cs) : ∃ a, cs = [.int .i64 a] := by
  obtain ⟨x, h⟩ := h
  obtain ⟨a, e, _⟩ := DataW.trod_int Tryd.underlying3 h
  exact ⟨a, e⟩
theorem tr_str {n : Nat} {cs : List Value} (h : Tr enc W base spare held n 9 cs) : ∃ s : ByteArray, cs = [.string s] ∧ s.size ≤ maxLen := by
  obtain ⟨x, h⟩ := h
  obtain ⟨a, e, _, h2⟩ := DataW.trod_string Tryd.underlying9 h
  exact ⟨a, e, h2⟩
theorem tr_fld {n : Nat} {t : TypeId} {fs : Array Field} {cs : List Value} (ht : Tryd.prog.underlying t = some (.struct fs)) (h : Tr enc W base spare held n t cs) : ∃ m, n = m + 1 ∧ cs.length = Tryd.prog.cellsOf t ∧ ∀ (i : Nat) (f : Field), fs[i]? = some f → Tr enc W base spare held m f.type ((cs.drop f.offset).take (Tryd.prog.cellsOf f.type)) := by
  obtain ⟨x, h⟩ := h
  obtain ⟨xs, m, e, _, hl, hlen, hf⟩ := DataW.trod_struct ht h
  refine ⟨m, e, hl, fun i f hfi => ?_⟩
  have h1 := hf i f hfi
  have hi : i < xs.length := by rw [hlen]; exact (Array.getElem?_eq_some_iff.1 hfi).1
  rw [List.getElem?_eq_getElem hi] at h1
  exact ⟨_, h1⟩
theorem cells_get {a : Addr} {z : Nat} {cs : List Value} (h : W.cells? base a z = some cs) : cs.length = z ∧ ∀ j, j < z → W.cell? (a.add j) = cs[j]? := by
  unfold World.cells? at h
  split at h
  · exact ⟨by simpa using mapM_some_length h, fun j hj => mapM_some_get h j j (by rw [List.getElem?_range hj])⟩
  · cases h
theorem range_app {w : World} {g o : Nat} {xs ys : List Value} (h : w.rangeAt g o xs) (k : w.rangeAt g (o + xs.length) ys) : w.rangeAt g o (xs ++ ys) := fun j u hu => by
  by_cases c : j < xs.length
  · rw [List.getElem?_append_left c] at hu
    exact h j u hu
  · rw [List.getElem?_append_right (by omega)] at hu
    have := k (j - xs.length) u hu
    rw [show o + xs.length + (j - xs.length) = o + j by omega] at this
    exact this
theorem rows_of {α : Type} {enc : α → List Dat} {z g off : Nat} {Q : α → Prop} : ∀ (len : Nat), (∀ i, i < len → ∃ x, Q x ∧ ∃ cs : List Value, cs.length = z ∧ W.rangeAt g (off + i * z) cs ∧ RdL W (enc x) cs) →
    ∃ (l : List α) (xs : List Value), l.length = len ∧ xs.length = len * z ∧ W.rangeAt g off xs ∧ RdL W (l.map enc).flatten xs ∧ ∀ x, x ∈ l → Q x
  | 0, _ => ⟨[], [], rfl, by simp, fun j u hu => by simp at hu, RdL.nil _, fun x hx => by cases hx⟩
  | n + 1, h => by
    obtain ⟨l, xs, h1, h2, h3, h4, h5⟩ := rows_of n (fun i hi => h i (by omega))
    obtain ⟨x, hq, cs, c1, c2, c3⟩ := h n (by omega)
    refine ⟨l ++ [x], xs ++ cs, by simp [h1], by rw [List.length_append, h2, c1, Nat.add_mul, Nat.one_mul], range_app h3 (by rw [h2]; exact c2), ?_, fun y hy => ?_⟩
    · rw [List.map_append, List.flatten_append]
      exact rdl_app h4 (by simpa using c3)
    · rcases List.mem_append.1 hy with hy | hy
      · exact h5 y hy
      · rw [List.mem_singleton.1 hy]; exact hq
theorem tr_row {α : Type} {ec : α → List Dat} {z : Nat} {t e : TypeId} {n : Nat} {cs : List Value} {Q : α → Prop} (hu : Tryd.prog.underlying t = some (.slice e)) (hc : Tryd.prog.cellsOf e = z) (hz : 0 < z) (h : Tr enc W base spare held n t cs)
    (hel : ∀ m, m < n → ∀ cs', Tr enc W base spare held m e cs' → ∃ x, Q x ∧ RdL W (ec x) cs') : ∃ (v : Value) (l : List α), cs = [v] ∧ Rd W (.row e z (l.map ec)) v ∧ ∀ x, x ∈ l → Q x := by
  obtain ⟨x, h⟩ := h
  rcases DataW.trod_slice hu h with ⟨rfl, _⟩ | ⟨a, len, cap, elems, rest, m, hm, rfl, _, _, hl, hmx, hlen, hg, _, _⟩
  · exact ⟨_, [], rfl, .nil e z none 0 (Nat.zero_le _), fun x hx => by cases hx⟩
  · have each : ∀ i, i < len → ∃ cs', W.cells? base (a.add (i * z)) z = some cs' ∧ Tr enc W base spare held m e cs' := fun i hi => by
      have h1 := hg i hi
      rw [hc, List.getElem?_eq_getElem (by omega)] at h1
      cases hq : W.cells? base (a.add (i * z)) z with
      | none => rw [hq] at h1; cases h1
      | some cs' => rw [hq] at h1; exact ⟨cs', rfl, _, h1⟩
    by_cases h0 : len = 0
    · subst h0
      exact ⟨_, [], rfl, .nil e z (some a) cap hmx, fun x hx => by cases hx⟩
    · have hsp : a.spot = none := by
        obtain ⟨cs', h1, _⟩ := each 0 (by omega)
        obtain ⟨h2, h3⟩ := cells_get h1
        have h4 := h3 0 (by omega)
        rw [List.getElem?_eq_getElem (by omega)] at h4
        have h5 := spot_none h4
        cases hxs : a.spot with
        | none => rfl
        | some q =>
          exfalso
          cases a
          simp at hxs
          subst hxs
          revert h5
          simp [Addr.add]
      obtain ⟨g, off, rfl⟩ : ∃ g off, a = ⟨g, off, none⟩ := ⟨a.block, a.off, by cases a; simp at hsp; subst hsp; rfl⟩
      obtain ⟨l, xs, l1, l2, l3, l4, l5⟩ := rows_of (W := W) (enc := ec) (z := z) (g := g) (off := off) (Q := Q) len (fun i hi => by
        obtain ⟨cs', h1, h2⟩ := each i hi
        obtain ⟨h3, h4⟩ := cells_get h1
        obtain ⟨x, hx, hr⟩ := hel m (by omega) cs' h2
        refine ⟨x, hx, cs', h3, fun j u hj => ?_, hr⟩
        have hjl : j < z := by rw [← h3]; exact (List.getElem?_eq_some_iff.1 hj).1
        have h5 := h4 j hjl
        rw [Addr.add_mid, Addr.add_mid, hj] at h5
        exact h5)
      refine ⟨_, l, rfl, ?_, l5⟩
      have := Rd.row (w := W) e z (l.map ec) g off cap xs (by simp; omega) (by simp; omega) hmx l3 l4.1 l4.2
      rw [List.length_map, l1] at this
      exact this
/-! Fields, one behind the other. -/
theorem rdl_fld {ds es : List Dat} {cs : List Value} {a z b : Nat} (h : RdL W ds ((cs.drop a).take z)) (hb : a + z = b) (k : RdL W es (cs.drop b)) : RdL W (ds ++ es) (cs.drop a) := by
  subst hb
  have e : cs.drop a = (cs.drop a).take z ++ cs.drop (a + z) := by rw [← List.drop_drop, List.take_append_drop]
  rw [e]
  exact rdl_app h k
theorem rdl_end {cs : List Value} {n : Nat} (h : cs.length = n) : RdL W [] (cs.drop n) := by
  rw [List.drop_of_length_le (by omega)]
  exact RdL.nil _
theorem rdl_lit {v : Value} {cs : List Value} (h : cs = [v]) : RdL W [.lit v] cs := by subst h; exact RdL.cons (.lit _) (RdL.nil _)
theorem rdl_val {d : Dat} {v : Value} {cs : List Value} (h : cs = [v]) (k : Rd W d v) : RdL W [d] cs := by subst h; exact RdL.cons k (RdL.nil _)
theorem k3 : Tryd.prog.cellsOf 3 = 1 := by kernel_rfl
theorem k9 : Tryd.prog.cellsOf 9 = 1 := by kernel_rfl
theorem kV : Tryd.prog.cellsOf 42 = 3 := by kernel_rfl
theorem kO : Tryd.prog.cellsOf 44 = 6 := by kernel_rfl
theorem kC : Tryd.prog.cellsOf 46 = 14 := by kernel_rfl
theorem kP : Tryd.prog.cellsOf 48 = 18 := by kernel_rfl
theorem kM : Tryd.prog.cellsOf 94 = 20 := by kernel_rfl
theorem kQ : Tryd.prog.cellsOf 53 = 3 := by kernel_rfl
theorem kK : Tryd.prog.cellsOf 56 = 3 := by kernel_rfl
theorem kF : Tryd.prog.cellsOf 66 = 2 := by kernel_rfl
theorem kY : Tryd.prog.cellsOf 62 = 2 := by kernel_rfl
theorem kR : Tryd.prog.cellsOf 38 = 7 := by kernel_rfl
theorem kE : Tryd.prog.cellsOf 36 = 2 := by kernel_rfl
theorem kB : Tryd.prog.cellsOf 25 = 2 := by kernel_rfl
theorem ksC : Tryd.prog.cellsOf 40 = 1 := by kernel_rfl
theorem ksP : Tryd.prog.cellsOf 31 = 1 := by kernel_rfl
theorem ksM : Tryd.prog.cellsOf 32 = 1 := by kernel_rfl
theorem ksK : Tryd.prog.cellsOf 33 = 1 := by kernel_rfl
theorem ksO : Tryd.prog.cellsOf 34 = 1 := by kernel_rfl
theorem ksQ : Tryd.prog.cellsOf 54 = 1 := by kernel_rfl
theorem ksF : Tryd.prog.cellsOf 60 = 1 := by kernel_rfl
theorem ksY : Tryd.prog.cellsOf 22 = 1 := by kernel_rfl
theorem ksR : Tryd.prog.cellsOf 23 = 1 := by kernel_rfl
theorem tr_val {n : Nat} {cs : List Value} (h : Tr enc W base spare held n 42 cs) : ∃ (k i : Int) (s : ByteArray), RdL W [.lit (.int .i64 k), .lit (.int .i64 i), .lit (.string s)] cs := by
  obtain ⟨m, hm, hl, hf⟩ := tr_fld Tryd.underlying42 h
  rw [kV] at hl
  have h0 : Tr enc W base spare held m 3 ((cs.drop 0).take (Tryd.prog.cellsOf 3)) := hf 0 _ rfl
  rw [k3] at h0
  have h1 : Tr enc W base spare held m 3 ((cs.drop 1).take (Tryd.prog.cellsOf 3)) := hf 1 _ rfl
  rw [k3] at h1
  have h2 : Tr enc W base spare held m 9 ((cs.drop 2).take (Tryd.prog.cellsOf 9)) := hf 2 _ rfl
  rw [k9] at h2
  obtain ⟨a, e0⟩ := tr_int h0
  obtain ⟨b, e1⟩ := tr_int h1
  obtain ⟨s, e2, _⟩ := tr_str h2
  exact ⟨a, b, s, rdl_fld (a := 0) (z := 1) (rdl_lit e0) rfl (rdl_fld (z := 1) (rdl_lit e1) rfl (rdl_fld (z := 1) (rdl_lit e2) rfl (rdl_end hl)))⟩
theorem tr_opd {n : Nat} {cs : List Value} (h : Tr enc W base spare held n 44 cs) : ∃ o : Opd, o.va.size ≤ maxLen ∧ RdL W (encO o) cs := by
  obtain ⟨m, hm, hl, hf⟩ := tr_fld Tryd.underlying44 h
  rw [kO] at hl
  have h0 : Tr enc W base spare held m 3 ((cs.drop 0).take (Tryd.prog.cellsOf 3)) := hf 0 _ rfl
  rw [k3] at h0
  have h1 : Tr enc W base spare held m 42 ((cs.drop 1).take (Tryd.prog.cellsOf 42)) := hf 1 _ rfl
  rw [kV] at h1
  have h2 : Tr enc W base spare held m 9 ((cs.drop 4).take (Tryd.prog.cellsOf 9)) := hf 2 _ rfl
  rw [k9] at h2
  have h3 : Tr enc W base spare held m 9 ((cs.drop 5).take (Tryd.prog.cellsOf 9)) := hf 3 _ rfl
  rw [k9] at h3
  obtain ⟨a, e0⟩ := tr_int h0
  obtain ⟨vk, vi, vt, e1⟩ := tr_val h1
  obtain ⟨s, e2, z2⟩ := tr_str h2
  obtain ⟨u, e3, _⟩ := tr_str h3
  exact ⟨⟨a, vk, vi, vt, s, u⟩, z2, rdl_fld (a := 0) (z := 1) (rdl_lit e0) rfl (rdl_fld (z := 3) e1 rfl (rdl_fld (z := 1) (rdl_lit e2) rfl (rdl_fld (z := 1) (rdl_lit e3) rfl (rdl_end hl))))⟩
theorem tr_cond : ∀ (n : Nat) (cs : List Value), Tr enc W base spare held n 46 cs → ∃ c : Cn, Wsz c ∧ RdL W (encC c) cs := by
  intro n
  induction n using Nat.strongRecOn with
  | _ n ih =>
    intro cs h
    obtain ⟨m, hm, hl, hf⟩ := tr_fld Tryd.underlying46 h
    rw [kC] at hl
    have h0 : Tr enc W base spare held m 3 ((cs.drop 0).take (Tryd.prog.cellsOf 3)) := hf 0 _ rfl
    rw [k3] at h0
    have h1 : Tr enc W base spare held m 40 ((cs.drop 1).take (Tryd.prog.cellsOf 40)) := hf 1 _ rfl
    rw [ksC] at h1
    have h2 : Tr enc W base spare held m 44 ((cs.drop 2).take (Tryd.prog.cellsOf 44)) := hf 2 _ rfl
    rw [kO] at h2
    have h3 : Tr enc W base spare held m 44 ((cs.drop 8).take (Tryd.prog.cellsOf 44)) := hf 3 _ rfl
    rw [kO] at h3
    obtain ⟨a, e0⟩ := tr_int h0
    obtain ⟨v, l, e1, q1, q2⟩ := tr_row (ec := encC) (z := 14) (Q := Wsz) Tryd.underlying40 kC (by omega) h1 (fun m' hm' cs' h' => ih m' (by omega) cs' h')
    obtain ⟨o1, z1, e2⟩ := tr_opd h2
    obtain ⟨o2, z2, e3⟩ := tr_opd h3
    exact ⟨⟨a, l.map encC, o1, o2⟩, .mk _ l rfl z1 z2 q2, rdl_fld (a := 0) (z := 1) (rdl_lit e0) rfl (rdl_fld (z := 1) (rdl_val e1 q1) rfl (rdl_fld (z := 6) e2 rfl (by simpa using rdl_fld (z := 6) e3 rfl (rdl_end hl))))⟩
theorem tr_pat {n : Nat} {cs : List Value} (h : Tr enc W base spare held n 48 cs) : ∃ p : Pt, Wsz p.c ∧ RdL W (encP p) cs := by
  obtain ⟨m, hm, hl, hf⟩ := tr_fld Tryd.underlying48 h
  rw [kP] at hl
  have h0 : Tr enc W base spare held m 9 ((cs.drop 0).take (Tryd.prog.cellsOf 9)) := hf 0 _ rfl
  rw [k9] at h0
  have h1 : Tr enc W base spare held m 9 ((cs.drop 1).take (Tryd.prog.cellsOf 9)) := hf 1 _ rfl
  rw [k9] at h1
  have h2 : Tr enc W base spare held m 46 ((cs.drop 2).take (Tryd.prog.cellsOf 46)) := hf 2 _ rfl
  rw [kC] at h2
  have h3 : Tr enc W base spare held m 3 ((cs.drop 16).take (Tryd.prog.cellsOf 3)) := hf 3 _ rfl
  rw [k3] at h3
  have h4 : Tr enc W base spare held m 3 ((cs.drop 17).take (Tryd.prog.cellsOf 3)) := hf 4 _ rfl
  rw [k3] at h4
  obtain ⟨a, e0, _⟩ := tr_str h0
  obtain ⟨b, e1, _⟩ := tr_str h1
  obtain ⟨c, z2, e2⟩ := tr_cond _ _ h2
  obtain ⟨x, e3⟩ := tr_int h3
  obtain ⟨y, e4⟩ := tr_int h4
  exact ⟨⟨a, b, c, x, y⟩, z2, rdl_fld (a := 0) (z := 1) (rdl_lit e0) rfl (rdl_fld (z := 1) (rdl_lit e1) rfl (rdl_fld (z := 14) e2 rfl (rdl_fld (z := 1) (rdl_lit e3) rfl (rdl_fld (z := 1) (rdl_lit e4) rfl (rdl_end hl)))))⟩
theorem tr_many {n : Nat} {cs : List Value} (h : Tr enc W base spare held n 94 cs) : ∃ x : Mn, Wsz x.p.c ∧ RdL W (encM x) cs := by
  obtain ⟨m, hm, hl, hf⟩ := tr_fld Tryd.underlying94 h
  rw [kM] at hl
  have h0 : Tr enc W base spare held m 3 ((cs.drop 0).take (Tryd.prog.cellsOf 3)) := hf 0 _ rfl
  rw [k3] at h0
  have h1 : Tr enc W base spare held m 9 ((cs.drop 1).take (Tryd.prog.cellsOf 9)) := hf 1 _ rfl
  rw [k9] at h1
  have h2 : Tr enc W base spare held m 48 ((cs.drop 2).take (Tryd.prog.cellsOf 48)) := hf 2 _ rfl
  rw [kP] at h2
  obtain ⟨a, e0⟩ := tr_int h0
  obtain ⟨b, e1, _⟩ := tr_str h1
  obtain ⟨c, z2, e2⟩ := tr_pat h2
  exact ⟨⟨a, b, c⟩, z2, rdl_fld (a := 0) (z := 1) (rdl_lit e0) rfl (rdl_fld (z := 1) (rdl_lit e1) rfl (by have h9 := rdl_fld (z := 18) e2 rfl (rdl_end hl); rw [List.append_nil] at h9; exact h9))⟩
theorem tr_opt {n : Nat} {cs : List Value} (h : Tr enc W base spare held n 53 cs) : ∃ o : Op3, True ∧ RdL W (encQ o) cs := by
  obtain ⟨m, hm, hl, hf⟩ := tr_fld Tryd.underlying53 h
  rw [kQ] at hl
  have h0 : Tr enc W base spare held m 3 ((cs.drop 0).take (Tryd.prog.cellsOf 3)) := hf 0 _ rfl
  rw [k3] at h0
  have h1 : Tr enc W base spare held m 3 ((cs.drop 1).take (Tryd.prog.cellsOf 3)) := hf 1 _ rfl
  rw [k3] at h1
  have h2 : Tr enc W base spare held m 3 ((cs.drop 2).take (Tryd.prog.cellsOf 3)) := hf 2 _ rfl
  rw [k3] at h2
  obtain ⟨a, e0⟩ := tr_int h0
  obtain ⟨b, e1⟩ := tr_int h1
  obtain ⟨c, e2⟩ := tr_int h2
  exact ⟨⟨a, b, c⟩, trivial, rdl_fld (a := 0) (z := 1) (rdl_lit e0) rfl (rdl_fld (z := 1) (rdl_lit e1) rfl (rdl_fld (z := 1) (rdl_lit e2) rfl (rdl_end hl)))⟩
theorem tr_link {n : Nat} {cs : List Value} (h : Tr enc W base spare held n 56 cs) : ∃ x : Lk, (x.l.size ≤ maxLen ∧ x.r.size ≤ maxLen) ∧ RdL W (encK x) cs := by
  obtain ⟨m, hm, hl, hf⟩ := tr_fld Tryd.underlying56 h
  rw [kK] at hl
  have h0 : Tr enc W base spare held m 9 ((cs.drop 0).take (Tryd.prog.cellsOf 9)) := hf 0 _ rfl
  rw [k9] at h0
  have h1 : Tr enc W base spare held m 54 ((cs.drop 1).take (Tryd.prog.cellsOf 54)) := hf 1 _ rfl
  rw [ksQ] at h1
  have h2 : Tr enc W base spare held m 9 ((cs.drop 2).take (Tryd.prog.cellsOf 9)) := hf 2 _ rfl
  rw [k9] at h2
  obtain ⟨a, e0, z0⟩ := tr_str h0
  obtain ⟨v, l, e1, q1, _⟩ := tr_row (ec := encQ) (z := 3) (Q := fun _ => True) Tryd.underlying54 kQ (by omega) h1 (fun m' hm' cs' h' => tr_opt h')
  obtain ⟨c, e2, z2⟩ := tr_str h2
  exact ⟨⟨a, l, c⟩, ⟨z0, z2⟩, rdl_fld (a := 0) (z := 1) (rdl_lit e0) rfl (rdl_fld (z := 1) (rdl_val e1 q1) rfl (rdl_fld (z := 1) (rdl_lit e2) rfl (rdl_end hl)))⟩
theorem tr_field {n : Nat} {cs : List Value} (h : Tr enc W base spare held n 66 cs) : ∃ f : Fd, True ∧ RdL W (encF f) cs := by
  obtain ⟨m, hm, hl, hf⟩ := tr_fld Tryd.underlying66 h
  rw [kF] at hl
  have h0 : Tr enc W base spare held m 9 ((cs.drop 0).take (Tryd.prog.cellsOf 9)) := hf 0 _ rfl
  rw [k9] at h0
  have h1 : Tr enc W base spare held m 3 ((cs.drop 1).take (Tryd.prog.cellsOf 3)) := hf 1 _ rfl
  rw [k3] at h1
  obtain ⟨a, e0, _⟩ := tr_str h0
  obtain ⟨b, e1⟩ := tr_int h1
  exact ⟨⟨a, b⟩, trivial, rdl_fld (a := 0) (z := 1) (rdl_lit e0) rfl (rdl_fld (z := 1) (rdl_lit e1) rfl (rdl_end hl))⟩
theorem tr_type {n : Nat} {cs : List Value} (h : Tr enc W base spare held n 62 cs) : ∃ t : Tp, True ∧ RdL W (encY t) cs := by
  obtain ⟨m, hm, hl, hf⟩ := tr_fld Tryd.underlying62 h
  rw [kY] at hl
  have h0 : Tr enc W base spare held m 9 ((cs.drop 0).take (Tryd.prog.cellsOf 9)) := hf 0 _ rfl
  rw [k9] at h0
  have h1 : Tr enc W base spare held m 60 ((cs.drop 1).take (Tryd.prog.cellsOf 60)) := hf 1 _ rfl
  rw [ksF] at h1
  obtain ⟨a, e0, _⟩ := tr_str h0
  obtain ⟨v, l, e1, q1, _⟩ := tr_row (ec := encF) (z := 2) (Q := fun _ => True) Tryd.underlying60 kF (by omega) h1 (fun m' hm' cs' h' => tr_field h')
  exact ⟨⟨a, l⟩, trivial, rdl_fld (a := 0) (z := 1) (rdl_lit e0) rfl (rdl_fld (z := 1) (rdl_val e1 q1) rfl (rdl_end hl))⟩
theorem tr_emit {n : Nat} {cs : List Value} (h : Tr enc W base spare held n 36 cs) : ∃ x : Em, (∀ o, o ∈ x.v → o.va.size ≤ maxLen) ∧ RdL W [.lit (.string x.ty), .row 44 6 (x.v.map encO)] cs := by
  obtain ⟨m, hm, hl, hf⟩ := tr_fld Tryd.underlying36 h
  rw [kE] at hl
  have h0 : Tr enc W base spare held m 9 ((cs.drop 0).take (Tryd.prog.cellsOf 9)) := hf 0 _ rfl
  rw [k9] at h0
  have h1 : Tr enc W base spare held m 34 ((cs.drop 1).take (Tryd.prog.cellsOf 34)) := hf 1 _ rfl
  rw [ksO] at h1
  obtain ⟨a, e0, _⟩ := tr_str h0
  obtain ⟨v, l, e1, q1, q2⟩ := tr_row (ec := encO) (z := 6) (Q := fun o => o.va.size ≤ maxLen) Tryd.underlying34 kO (by omega) h1 (fun m' hm' cs' h' => tr_opd h')
  exact ⟨⟨a, l⟩, q2, rdl_fld (a := 0) (z := 1) (rdl_lit e0) rfl (rdl_fld (z := 1) (rdl_val e1 q1) rfl (rdl_end hl))⟩
theorem tr_rule {n : Nat} {cs : List Value} (h : Tr enc W base spare held n 38 cs) : ∃ x : Rl, Szr x ∧ RdL W (encR x) cs := by
  obtain ⟨m, hm, hl, hf⟩ := tr_fld Tryd.underlying38 h
  rw [kR] at hl
  have h0 : Tr enc W base spare held m 9 ((cs.drop 0).take (Tryd.prog.cellsOf 9)) := hf 0 _ rfl
  rw [k9] at h0
  have h1 : Tr enc W base spare held m 31 ((cs.drop 1).take (Tryd.prog.cellsOf 31)) := hf 1 _ rfl
  rw [ksP] at h1
  have h2 : Tr enc W base spare held m 31 ((cs.drop 2).take (Tryd.prog.cellsOf 31)) := hf 2 _ rfl
  rw [ksP] at h2
  have h3 : Tr enc W base spare held m 32 ((cs.drop 3).take (Tryd.prog.cellsOf 32)) := hf 3 _ rfl
  rw [ksM] at h3
  have h4 : Tr enc W base spare held m 33 ((cs.drop 4).take (Tryd.prog.cellsOf 33)) := hf 4 _ rfl
  rw [ksK] at h4
  have h5 : Tr enc W base spare held m 36 ((cs.drop 5).take (Tryd.prog.cellsOf 36)) := hf 5 _ rfl
  rw [kE] at h5
  obtain ⟨a, e0, _⟩ := tr_str h0
  obtain ⟨v1, l1, e1, q1, p1⟩ := tr_row (ec := encP) (z := 18) (Q := fun p => Wsz p.c) Tryd.underlying31 kP (by omega) h1 (fun m' hm' cs' h' => tr_pat h')
  obtain ⟨v2, l2, e2, q2, p2⟩ := tr_row (ec := encP) (z := 18) (Q := fun p => Wsz p.c) Tryd.underlying31 kP (by omega) h2 (fun m' hm' cs' h' => tr_pat h')
  obtain ⟨v3, l3, e3, q3, p3⟩ := tr_row (ec := encM) (z := 20) (Q := fun x => Wsz x.p.c) Tryd.underlying32 kM (by omega) h3 (fun m' hm' cs' h' => tr_many h')
  obtain ⟨v4, l4, e4, q4, p4⟩ := tr_row (ec := encK) (z := 3) (Q := fun x => x.l.size ≤ maxLen ∧ x.r.size ≤ maxLen) Tryd.underlying33 kK (by omega) h4 (fun m' hm' cs' h' => tr_link h')
  obtain ⟨x5, p5, e5⟩ := tr_emit h5
  exact ⟨⟨a, l1, l2, l3, l4, x5⟩, ⟨p1, p2, p3, p4, p5⟩, rdl_fld (a := 0) (z := 1) (rdl_lit e0) rfl (rdl_fld (z := 1) (rdl_val e1 q1) rfl (rdl_fld (z := 1) (rdl_val e2 q2) rfl (rdl_fld (z := 1) (rdl_val e3 q3) rfl (rdl_fld (z := 1) (rdl_val e4 q4) rfl (by simpa using rdl_fld (z := 2) e5 rfl (rdl_end hl))))))⟩
theorem open_book (hv : Value.okWide Tryd.prog W r b0 25 v) (h : DataW.Trod enc Tryd.prog W base spare held 25 v d p) : ∃ (ts : List Tp) (rs : List Rl) (tv rv : Value), v = .agg #[tv, rv] ∧ Rd W (.row 62 2 (ts.map encY)) tv ∧ Rd W (.row 38 7 (rs.map encR)) rv ∧ ∀ x, x ∈ rs → Szr x := by
  obtain ⟨cs, rfl, hsz⟩ := okWide_struct Tryd.underlying25 hv
  obtain ⟨fuel, hf⟩ := h
  have h : Tr enc W base spare held fuel 25 cs.toList := ⟨_, by simpa [Value.cells] using hf⟩
  clear hf
  obtain ⟨m, hm, hl, hf⟩ := tr_fld Tryd.underlying25 h
  rw [kB] at hl
  have h0 : Tr enc W base spare held m 22 ((cs.toList.drop 0).take (Tryd.prog.cellsOf 22)) := hf 0 _ rfl
  rw [ksY] at h0
  have h1 : Tr enc W base spare held m 23 ((cs.toList.drop 1).take (Tryd.prog.cellsOf 23)) := hf 1 _ rfl
  rw [ksR] at h1
  obtain ⟨tv, ts, e0, q0, _⟩ := tr_row (ec := encY) (z := 2) (Q := fun _ => True) Tryd.underlying22 kY (by omega) h0 (fun m' hm' cs' h' => tr_type h')
  obtain ⟨rv, rs, e1, q1, p1⟩ := tr_row (ec := encR) (z := 7) (Q := Szr) Tryd.underlying23 kR (by omega) h1 (fun m' hm' cs' h' => tr_rule h')
  refine ⟨ts, rs, tv, rv, ?_, q0, q1, p1⟩
  obtain ⟨l⟩ := cs
  match l, hl with
  | [x, y], _ =>
    simp at e0 e1
    rw [e0, e1]
set_option maxHeartbeats 8000000 in
theorem checkChecks_walk (ts : List Tp) (rs : List Rl) (hzz : ∀ r, r ∈ rs → Szr r) (tv rv : Value) (w : World) (hT : Rd w (.row 62 2 (ts.map encY)) tv) (hR : Rd w (.row 38 7 (rs.map encR)) rv) (htk : Tab w 0 kpl) (htr : Tab w 1 rll) :
    Calls Tryd.prog 3 #[.agg #[tv, rv]] w fun e w' => e = .returned (.bool true) ∧ Below w.heap.size w w' := by
  obtain ⟨R, hRR⟩ : ∃ R, bok ts rs = R := ⟨_, rfl⟩
  have HC := hid (fun W (hW : Below w.heap.size w W) => check_any ts rs hzz tv rv W (hT.later hW) (hR.later hW) (tab_later htk hW) (tab_later htr hW))
  have HF := hid (fun W (hW : Below w.heap.size w W) => bookFault_any ts rs (fun x hx => ⟨fun t ht => ((hzz x hx).w t ht).wfc, fun t ht => ((hzz x hx).t t ht).wfc, fun m hm => ((hzz x hx).m m hm).wfc⟩) tv rv W (hT.later hW) (hR.later hW))
  rw [hRR] at HC HF
  obtain ⟨tp, tn, tc, rfl⟩ := rd_shape hT
  obtain ⟨rp, rn, rc, rfl⟩ := rd_shape hR
  have HT : Hid (BlkT w (w.alloc (.cells [.slice tp tn tc, .slice rp rn rc].toArray 25)) [.slice tp tn tc, .slice rp rn rc] 25) := BlkT.start w _ _
  clear hT hR htk htr hzz hRR
  go_enter Tryd.func3, Tryd.ntmps3
  go_wp2_with fail
  refine (HC.out _ HT.out.bel).mono ?_
  rintro e w1 ⟨rfl, hb1⟩
  have HT1 : Hid (BlkT w w1 [.slice tp tn tc, .slice rp rn rc] 25) := HT.out.next hb1
  clear hb1
  have c0 : w1.cell? ⟨w.heap.size, 0, none⟩ = some (.slice tp tn tc) := HT1.out.c 0
  have c1 : w1.cell? ⟨w.heap.size, 1, none⟩ = some (.slice rp rn rc) := HT1.out.c 1
  go_wp2_with fail
  refine (HF.out _ HT1.out.bel).mono ?_
  rintro e w2 ⟨rfl, hb2⟩
  have HT2 : Hid (BlkT w w2 [.slice tp tn tc, .slice rp rn rc] 25) := HT1.out.next hb2
  clear hb2 c0 c1
  go_wp2
  go_ret
  exact ⟨ret_bool (by simp), HT2.out.bel⟩
end Go.Proofs.YtpmnagmiikgnkaaDoor.Chk
