/-
  A book that came in: what lies in memory. Events that came in, and a copy of them. What SiftTakes answers. The tables that the program's text lays: what lies in memory.
-/
import Derived.Lib.SmallJoins
import Derived.Lib.LaidU8
import Derived.MakeChecks
import Derived.FnData
import Derived.Test.YthndlfdbmljkhaaGreatDoorDt
import Derived.Test.YthndlfdbmljkhaaGreatDoorA
import Derived.Test.YthndlfdbmljkhaaGreatDoorV4K
import Derived.Test.YthndlfdbmljkhaaGreatDoorXj
import Derived.Test.YthndlfdbmljkhaaGreatDoorXf
namespace Go.Proofs.YthndlfdbmljkhaaGreatDoor.Chk
open Go.Deep Go.ChangeShapes Go.WideShapes Go.ChangeAt Go.RowKit Go.Maps
set_option linter.unusedVariables false
set_option linter.unusedSimpArgs false
set_option maxRecDepth 20000
variable {H : Type} {enc : TypeId × Value → H} {W : World} {base b0 : Nat} {r : Reach} {spare : Nat → Bool} {held : Bool} {v : Value} {d : DataW H} {p : List MemPlace}
def Tr (enc : TypeId × Value → H) (W : World) (base : Nat) (spare : Nat → Bool) (held : Bool) (n : Nat) (t : TypeId) (cs : List Value) : Prop := ∃ x, DataW.trod enc Tryz.prog W base spare held n t cs = some x
theorem tr_int {n : Nat} {cs : List Value} (h : Tr enc W base spare held n 3 cs) : ∃ a, cs = [.int .i64 a] := by
  obtain ⟨x, h⟩ := h
  obtain ⟨a, e, _⟩ := DataW.trod_int Tryz.underlying3 h
  exact ⟨a, e⟩
theorem tr_str {n : Nat} {cs : List Value} (h : Tr enc W base spare held n 9 cs) : ∃ s : ByteArray, cs = [.string s] ∧ s.size ≤ maxLen := by
  obtain ⟨x, h⟩ := h
  obtain ⟨a, e, _, h2⟩ := DataW.trod_string Tryz.underlying9 h
  exact ⟨a, e, h2⟩
theorem tr_fld {n : Nat} {t : TypeId} {fs : Array Field} {cs : List Value} (ht : Tryz.prog.underlying t = some (.struct fs)) (h : Tr enc W base spare held n t cs) : ∃ m, n = m + 1 ∧ cs.length = Tryz.prog.cellsOf t ∧ ∀ (i : Nat) (f : Field), fs[i]? = some f → Tr enc W base spare held m f.type ((cs.drop f.offset).take (Tryz.prog.cellsOf f.type)) := by
  obtain ⟨x, h⟩ := h
  obtain ⟨xs, m, e, _, hl, hlen, hf⟩ := DataW.trod_struct ht h
  refine ⟨m, e, hl, fun i f hfi => ?_⟩
  have h1 := hf i f hfi
  have hi : i < xs.length := by rw [hlen]; exact (Array.getElem?_eq_some_iff.1 hfi).1
  rw [List.getElem?_eq_getElem hi] at h1
  exact ⟨_, h1⟩
theorem cells_get {a : Addr} {z : Nat} {cs : List Value} (h : W.cells? base a z = some cs) : cs.length = z ∧ ∀ j, j < z → W.cell? (a.add j) = cs[j]? := by
  unfold World.cells? at h
  split at h
  . exact ⟨by simpa using mapM_some_length h, fun j hj => mapM_some_get h j j (by rw [List.getElem?_range hj])⟩
  . cases h
theorem range_app {w : World} {g o : Nat} {xs ys : List Value} (h : w.rangeAt g o xs) (k : w.rangeAt g (o + xs.length) ys) : w.rangeAt g o (xs ++ ys) := fun j u hu => by
 by_cases c : j < xs.length
 . rw [List.getElem?_append_left c] at hu
   exact h j u hu
 . rw [List.getElem?_append_right (by omega)] at hu
   have := k (j - xs.length) u hu
   rw [show o + xs.length + (j - xs.length) = o + j by omega] at this
   exact this
theorem rows_of {α : Type} {enc : α → List Dat} {z g off : Nat} {Q : α → Prop} : ∀ (len : Nat), (∀ i, i < len → ∃ x, Q x ∧ ∃ cs : List Value, cs.length = z ∧ W.rangeAt g (off + i * z) cs ∧ RdL W (enc x) cs) →
  ∃ (l : List α) (xs : List Value), l.length = len ∧ xs.length = len * z ∧ W.rangeAt g off xs ∧ RdL W (l.map enc).flatten xs ∧ ∀ x, x ∈ l → Q x
 | 0, _ => ⟨[], [], rfl, by simp, fun j u hu => by simp at hu, RdL.nil _, fun x hx => by cases hx⟩
 | n + 1, h => by
  obtain ⟨l, xs, h1, h2, h3, h4, h5⟩ := rows_of n (fun i hi => h i (by omega))
  obtain ⟨x, hq, cs, c1, c2, c3⟩ := h n (by omega)
  refine ⟨l ++ [x], xs ++ cs, by simp [h1], by rw [List.length_append, h2, c1, Nat.add_mul, Nat.one_mul], range_app h3 (by rw [h2]; exact c2), ?_, fun y hy => ?_⟩
  . rw [List.map_append, List.flatten_append]
    exact rdl_app h4 (by simpa using c3)
  . rcases List.mem_append.1 hy with hy | hy
    . exact h5 y hy
    . rw [List.mem_singleton.1 hy]; exact hq
theorem tr_row {α : Type} {ec : α → List Dat} {z : Nat} {t e : TypeId} {n : Nat} {cs : List Value} {Q : α → Prop} (hu : Tryz.prog.underlying t = some (.slice e)) (hc : Tryz.prog.cellsOf e = z) (hz : 0 < z) (h : Tr enc W base spare held n t cs)
   (hel : ∀ m, m < n → ∀ cs', Tr enc W base spare held m e cs' → ∃ x, Q x ∧ RdL W (ec x) cs') : ∃ (v : Value) (l : List α), cs = [v] ∧ Rd W (.row e z (l.map ec)) v ∧ ∀ x, x ∈ l → Q x := by
 obtain ⟨x, h⟩ := h
 rcases DataW.trod_slice hu h with ⟨rfl, _⟩ | ⟨a, len, cap, elems, rest, m, hm, rfl, _, _, hl, hmx, hlen, hg, _, _⟩
 . exact ⟨_, [], rfl, .nil e z none 0 (Nat.zero_le _), fun x hx => by cases hx⟩
 . have each : ∀ i, i < len → ∃ cs', W.cells? base (a.add (i * z)) z = some cs' ∧ Tr enc W base spare held m e cs' := fun i hi => by
     have h1 := hg i hi
     rw [hc, List.getElem?_eq_getElem (by omega)] at h1
     cases hq : W.cells? base (a.add (i * z)) z with
     | none => rw [hq] at h1; cases h1
     | some cs' => rw [hq] at h1; exact ⟨cs', rfl, _, h1⟩
   by_cases h0 : len = 0
   . subst h0
     exact ⟨_, [], rfl, .nil e z (some a) cap hmx, fun x hx => by cases hx⟩
   . have hsp : a.spot = none := by
      obtain ⟨cs', h1, _⟩ := each 0 (by omega)
      obtain ⟨h2, h3⟩ := cells_get h1
      have h4 := h3 0 (by omega)
      rw [List.getElem?_eq_getElem (by omega)] at h4
      have h5 := spot_none h4
      cases hxs : a.spot with
      | none => rfl
      | some q =>
       exfalso
       cases a
       simp at hxs
       subst hxs
       revert h5
       simp [Addr.add]
     obtain ⟨g, off, rfl⟩ : ∃ g off, a = ⟨g, off, none⟩ := ⟨a.block, a.off, by cases a; simp at hsp; subst hsp; rfl⟩
     obtain ⟨l, xs, l1, l2, l3, l4, l5⟩ := rows_of (W := W) (enc := ec) (z := z) (g := g) (off := off) (Q := Q) len (fun i hi => by
      obtain ⟨cs', h1, h2⟩ := each i hi
      obtain ⟨h3, h4⟩ := cells_get h1
      obtain ⟨x, hx, hr⟩ := hel m (by omega) cs' h2
      refine ⟨x, hx, cs', h3, fun j u hj => ?_, hr⟩
      have hjl : j < z := by rw [← h3]; exact (List.getElem?_eq_some_iff.1 hj).1
      have h5 := h4 j hjl
      rw [Addr.add_mid, Addr.add_mid, hj] at h5
      exact h5)
     refine ⟨_, l, rfl, ?_, l5⟩
     have := Rd.row (w := W) e z (l.map ec) g off cap xs (by simp; omega) (by simp; omega) hmx l3 l4.1 l4.2
     rw [List.length_map, l1] at this
     exact this
/-! Fields, one behind the other. -/
theorem rdl_fld {ds es : List Dat} {cs : List Value} {a z b : Nat} (h : RdL W ds ((cs.drop a).take z)) (hb : a + z = b) (k : RdL W es (cs.drop b)) : RdL W (ds ++ es) (cs.drop a) := by
  subst hb
  have e : cs.drop a = (cs.drop a).take z ++ cs.drop (a + z) := by rw [← List.drop_drop, List.take_append_drop]
  rw [e]
  exact rdl_app h k
theorem rdl_end {cs : List Value} {n : Nat} (h : cs.length = n) : RdL W [] (cs.drop n) := by
  rw [List.drop_of_length_le (by omega)]
  exact RdL.nil _
theorem rdl_lit {v : Value} {cs : List Value} (h : cs = [v]) : RdL W [.lit v] cs := by subst h; exact RdL.cons (.lit _) (RdL.nil _)
theorem rdl_val {d : Dat} {v : Value} {cs : List Value} (h : cs = [v]) (k : Rd W d v) : RdL W [d] cs := by subst h; exact RdL.cons k (RdL.nil _)
theorem k3 : Tryz.prog.cellsOf 3 = 1 := by kernel_rfl
theorem k9 : Tryz.prog.cellsOf 9 = 1 := by kernel_rfl
theorem kV : Tryz.prog.cellsOf 59 = 3 := by kernel_rfl
theorem kO : Tryz.prog.cellsOf 61 = 6 := by kernel_rfl
theorem kC : Tryz.prog.cellsOf 63 = 14 := by kernel_rfl
theorem kP : Tryz.prog.cellsOf 65 = 18 := by kernel_rfl
theorem kM : Tryz.prog.cellsOf 68 = 20 := by kernel_rfl
theorem kQ : Tryz.prog.cellsOf 108 = 3 := by kernel_rfl
theorem kK : Tryz.prog.cellsOf 103 = 3 := by kernel_rfl
theorem kF : Tryz.prog.cellsOf 93 = 2 := by kernel_rfl
theorem kY : Tryz.prog.cellsOf 72 = 2 := by kernel_rfl
theorem kR : Tryz.prog.cellsOf 49 = 7 := by kernel_rfl
theorem kE : Tryz.prog.cellsOf 47 = 2 := by kernel_rfl
theorem kB : Tryz.prog.cellsOf 25 = 2 := by kernel_rfl
theorem ksC : Tryz.prog.cellsOf 57 = 1 := by kernel_rfl
theorem ksP : Tryz.prog.cellsOf 42 = 1 := by kernel_rfl
theorem ksM : Tryz.prog.cellsOf 43 = 1 := by kernel_rfl
theorem ksK : Tryz.prog.cellsOf 44 = 1 := by kernel_rfl
theorem ksO : Tryz.prog.cellsOf 45 = 1 := by kernel_rfl
theorem ksQ : Tryz.prog.cellsOf 101 = 1 := by kernel_rfl
theorem ksF : Tryz.prog.cellsOf 70 = 1 := by kernel_rfl
theorem ksY : Tryz.prog.cellsOf 22 = 1 := by kernel_rfl
theorem ksR : Tryz.prog.cellsOf 23 = 1 := by kernel_rfl
theorem tr_val {n : Nat} {cs : List Value} (h : Tr enc W base spare held n 59 cs) : ∃ (k i : Int) (s : ByteArray), RdL W [.lit (.int .i64 k), .lit (.int .i64 i), .lit (.string s)] cs := by
  obtain ⟨m, hm, hl, hf⟩ := tr_fld Tryz.underlying59 h
  rw [kV] at hl
  have h0 : Tr enc W base spare held m 3 ((cs.drop 0).take (Tryz.prog.cellsOf 3)) := hf 0 _ rfl
  rw [k3] at h0
  have h1 : Tr enc W base spare held m 3 ((cs.drop 1).take (Tryz.prog.cellsOf 3)) := hf 1 _ rfl
  rw [k3] at h1
  have h2 : Tr enc W base spare held m 9 ((cs.drop 2).take (Tryz.prog.cellsOf 9)) := hf 2 _ rfl
  rw [k9] at h2
  obtain ⟨a, e0⟩ := tr_int h0
  obtain ⟨b, e1⟩ := tr_int h1
  obtain ⟨s, e2, _⟩ := tr_str h2
  exact ⟨a, b, s, rdl_fld (a := 0) (z := 1) (rdl_lit e0) rfl (rdl_fld (z := 1) (rdl_lit e1) rfl (rdl_fld (z := 1) (rdl_lit e2) rfl (rdl_end hl)))⟩
theorem tr_opd {n : Nat} {cs : List Value} (h : Tr enc W base spare held n 61 cs) : ∃ o : Opd, o.va.size ≤ maxLen ∧ RdL W (encO o) cs := by
  obtain ⟨m, hm, hl, hf⟩ := tr_fld Tryz.underlying61 h
  rw [kO] at hl
  have h0 : Tr enc W base spare held m 3 ((cs.drop 0).take (Tryz.prog.cellsOf 3)) := hf 0 _ rfl
  rw [k3] at h0
  have h1 : Tr enc W base spare held m 59 ((cs.drop 1).take (Tryz.prog.cellsOf 59)) := hf 1 _ rfl
  rw [kV] at h1
  have h2 : Tr enc W base spare held m 9 ((cs.drop 4).take (Tryz.prog.cellsOf 9)) := hf 2 _ rfl
  rw [k9] at h2
  have h3 : Tr enc W base spare held m 9 ((cs.drop 5).take (Tryz.prog.cellsOf 9)) := hf 3 _ rfl
  rw [k9] at h3
  obtain ⟨a, e0⟩ := tr_int h0
  obtain ⟨vk, vi, vt, e1⟩ := tr_val h1
  obtain ⟨s, e2, z2⟩ := tr_str h2
  obtain ⟨u, e3, _⟩ := tr_str h3
  exact ⟨⟨a, vk, vi, vt, s, u⟩, z2, rdl_fld (a := 0) (z := 1) (rdl_lit e0) rfl (rdl_fld (z := 3) e1 rfl (rdl_fld (z := 1) (rdl_lit e2) rfl (rdl_fld (z := 1) (rdl_lit e3) rfl (rdl_end hl))))⟩
theorem tr_cond : ∀ (n : Nat) (cs : List Value), Tr enc W base spare held n 63 cs → ∃ c : Cn, Wsz c ∧ RdL W (encC c) cs := by
 intro n
 induction n using Nat.strongRecOn with
 | _ n ih =>
  intro cs h
  obtain ⟨m, hm, hl, hf⟩ := tr_fld Tryz.underlying63 h
  rw [kC] at hl
  have h0 : Tr enc W base spare held m 3 ((cs.drop 0).take (Tryz.prog.cellsOf 3)) := hf 0 _ rfl
  rw [k3] at h0
  have h1 : Tr enc W base spare held m 57 ((cs.drop 1).take (Tryz.prog.cellsOf 57)) := hf 1 _ rfl
  rw [ksC] at h1
  have h2 : Tr enc W base spare held m 61 ((cs.drop 2).take (Tryz.prog.cellsOf 61)) := hf 2 _ rfl
  rw [kO] at h2
  have h3 : Tr enc W base spare held m 61 ((cs.drop 8).take (Tryz.prog.cellsOf 61)) := hf 3 _ rfl
  rw [kO] at h3
  obtain ⟨a, e0⟩ := tr_int h0
  obtain ⟨v, l, e1, q1, q2⟩ := tr_row (ec := encC) (z := 14) (Q := Wsz) Tryz.underlying57 kC (by omega) h1 (fun m' hm' cs' h' => ih m' (by omega) cs' h')
  obtain ⟨o1, z1, e2⟩ := tr_opd h2
  obtain ⟨o2, z2, e3⟩ := tr_opd h3
  exact ⟨⟨a, l.map encC, o1, o2⟩, .mk _ l rfl z1 z2 q2, rdl_fld (a := 0) (z := 1) (rdl_lit e0) rfl (rdl_fld (z := 1) (rdl_val e1 q1) rfl (rdl_fld (z := 6) e2 rfl (by simpa using rdl_fld (z := 6) e3 rfl (rdl_end hl))))⟩
theorem tr_pat {n : Nat} {cs : List Value} (h : Tr enc W base spare held n 65 cs) : ∃ p : Pt, Wsz p.c ∧ RdL W (encP p) cs := by
  obtain ⟨m, hm, hl, hf⟩ := tr_fld Tryz.underlying65 h
  rw [kP] at hl
  have h0 : Tr enc W base spare held m 9 ((cs.drop 0).take (Tryz.prog.cellsOf 9)) := hf 0 _ rfl
  rw [k9] at h0
  have h1 : Tr enc W base spare held m 9 ((cs.drop 1).take (Tryz.prog.cellsOf 9)) := hf 1 _ rfl
  rw [k9] at h1
  have h2 : Tr enc W base spare held m 63 ((cs.drop 2).take (Tryz.prog.cellsOf 63)) := hf 2 _ rfl
  rw [kC] at h2
  have h3 : Tr enc W base spare held m 3 ((cs.drop 16).take (Tryz.prog.cellsOf 3)) := hf 3 _ rfl
  rw [k3] at h3
  have h4 : Tr enc W base spare held m 3 ((cs.drop 17).take (Tryz.prog.cellsOf 3)) := hf 4 _ rfl
  rw [k3] at h4
  obtain ⟨a, e0, _⟩ := tr_str h0
  obtain ⟨b, e1, _⟩ := tr_str h1
  obtain ⟨c, z2, e2⟩ := tr_cond _ _ h2
  obtain ⟨x, e3⟩ := tr_int h3
  obtain ⟨y, e4⟩ := tr_int h4
  exact ⟨⟨a, b, c, x, y⟩, z2, rdl_fld (a := 0) (z := 1) (rdl_lit e0) rfl (rdl_fld (z := 1) (rdl_lit e1) rfl (rdl_fld (z := 14) e2 rfl (rdl_fld (z := 1) (rdl_lit e3) rfl (rdl_fld (z := 1) (rdl_lit e4) rfl (rdl_end hl)))))⟩
theorem tr_many {n : Nat} {cs : List Value} (h : Tr enc W base spare held n 68 cs) : ∃ x : Mn, Wsz x.p.c ∧ RdL W (encM x) cs := by
  obtain ⟨m, hm, hl, hf⟩ := tr_fld Tryz.underlying68 h
  rw [kM] at hl
  have h0 : Tr enc W base spare held m 3 ((cs.drop 0).take (Tryz.prog.cellsOf 3)) := hf 0 _ rfl
  rw [k3] at h0
  have h1 : Tr enc W base spare held m 9 ((cs.drop 1).take (Tryz.prog.cellsOf 9)) := hf 1 _ rfl
  rw [k9] at h1
  have h2 : Tr enc W base spare held m 65 ((cs.drop 2).take (Tryz.prog.cellsOf 65)) := hf 2 _ rfl
  rw [kP] at h2
  obtain ⟨a, e0⟩ := tr_int h0
  obtain ⟨b, e1, _⟩ := tr_str h1
  obtain ⟨c, z2, e2⟩ := tr_pat h2
  exact ⟨⟨a, b, c⟩, z2, rdl_fld (a := 0) (z := 1) (rdl_lit e0) rfl (rdl_fld (z := 1) (rdl_lit e1) rfl (by have h9 := rdl_fld (z := 18) e2 rfl (rdl_end hl); rw [List.append_nil] at h9; exact h9))⟩
theorem tr_opt {n : Nat} {cs : List Value} (h : Tr enc W base spare held n 108 cs) : ∃ o : Op3, True ∧ RdL W (encQ o) cs := by
  obtain ⟨m, hm, hl, hf⟩ := tr_fld Tryz.underlying108 h
  rw [kQ] at hl
  have h0 : Tr enc W base spare held m 3 ((cs.drop 0).take (Tryz.prog.cellsOf 3)) := hf 0 _ rfl
  rw [k3] at h0
  have h1 : Tr enc W base spare held m 3 ((cs.drop 1).take (Tryz.prog.cellsOf 3)) := hf 1 _ rfl
  rw [k3] at h1
  have h2 : Tr enc W base spare held m 3 ((cs.drop 2).take (Tryz.prog.cellsOf 3)) := hf 2 _ rfl
  rw [k3] at h2
  obtain ⟨a, e0⟩ := tr_int h0
  obtain ⟨b, e1⟩ := tr_int h1
  obtain ⟨c, e2⟩ := tr_int h2
  exact ⟨⟨a, b, c⟩, trivial, rdl_fld (a := 0) (z := 1) (rdl_lit e0) rfl (rdl_fld (z := 1) (rdl_lit e1) rfl (rdl_fld (z := 1) (rdl_lit e2) rfl (rdl_end hl)))⟩
theorem tr_link {n : Nat} {cs : List Value} (h : Tr enc W base spare held n 103 cs) : ∃ x : Lk, (x.l.size ≤ maxLen ∧ x.r.size ≤ maxLen) ∧ RdL W (encK x) cs := by
  obtain ⟨m, hm, hl, hf⟩ := tr_fld Tryz.underlying103 h
  rw [kK] at hl
  have h0 : Tr enc W base spare held m 9 ((cs.drop 0).take (Tryz.prog.cellsOf 9)) := hf 0 _ rfl
  rw [k9] at h0
  have h1 : Tr enc W base spare held m 101 ((cs.drop 1).take (Tryz.prog.cellsOf 101)) := hf 1 _ rfl
  rw [ksQ] at h1
  have h2 : Tr enc W base spare held m 9 ((cs.drop 2).take (Tryz.prog.cellsOf 9)) := hf 2 _ rfl
  rw [k9] at h2
  obtain ⟨a, e0, z0⟩ := tr_str h0
  obtain ⟨v, l, e1, q1, _⟩ := tr_row (ec := encQ) (z := 3) (Q := fun _ => True) Tryz.underlying101 kQ (by omega) h1 (fun m' hm' cs' h' => tr_opt h')
  obtain ⟨c, e2, z2⟩ := tr_str h2
  exact ⟨⟨a, l, c⟩, ⟨z0, z2⟩, rdl_fld (a := 0) (z := 1) (rdl_lit e0) rfl (rdl_fld (z := 1) (rdl_val e1 q1) rfl (rdl_fld (z := 1) (rdl_lit e2) rfl (rdl_end hl)))⟩
theorem tr_field {n : Nat} {cs : List Value} (h : Tr enc W base spare held n 93 cs) : ∃ f : Fd, True ∧ RdL W (encF f) cs := by
  obtain ⟨m, hm, hl, hf⟩ := tr_fld Tryz.underlying93 h
  rw [kF] at hl
  have h0 : Tr enc W base spare held m 9 ((cs.drop 0).take (Tryz.prog.cellsOf 9)) := hf 0 _ rfl
  rw [k9] at h0
  have h1 : Tr enc W base spare held m 3 ((cs.drop 1).take (Tryz.prog.cellsOf 3)) := hf 1 _ rfl
  rw [k3] at h1
  obtain ⟨a, e0, _⟩ := tr_str h0
  obtain ⟨b, e1⟩ := tr_int h1
  exact ⟨⟨a, b⟩, trivial, rdl_fld (a := 0) (z := 1) (rdl_lit e0) rfl (rdl_fld (z := 1) (rdl_lit e1) rfl (rdl_end hl))⟩
theorem tr_type {n : Nat} {cs : List Value} (h : Tr enc W base spare held n 72 cs) : ∃ t : Tp, True ∧ RdL W (encY t) cs := by
  obtain ⟨m, hm, hl, hf⟩ := tr_fld Tryz.underlying72 h
  rw [kY] at hl
  have h0 : Tr enc W base spare held m 9 ((cs.drop 0).take (Tryz.prog.cellsOf 9)) := hf 0 _ rfl
  rw [k9] at h0
  have h1 : Tr enc W base spare held m 70 ((cs.drop 1).take (Tryz.prog.cellsOf 70)) := hf 1 _ rfl
  rw [ksF] at h1
  obtain ⟨a, e0, _⟩ := tr_str h0
  obtain ⟨v, l, e1, q1, _⟩ := tr_row (ec := encF) (z := 2) (Q := fun _ => True) Tryz.underlying70 kF (by omega) h1 (fun m' hm' cs' h' => tr_field h')
  exact ⟨⟨a, l⟩, trivial, rdl_fld (a := 0) (z := 1) (rdl_lit e0) rfl (rdl_fld (z := 1) (rdl_val e1 q1) rfl (rdl_end hl))⟩
theorem tr_emit {n : Nat} {cs : List Value} (h : Tr enc W base spare held n 47 cs) : ∃ x : Em, (∀ o, o ∈ x.v → o.va.size ≤ maxLen) ∧ RdL W [.lit (.string x.ty), .row 61 6 (x.v.map encO)] cs := by
  obtain ⟨m, hm, hl, hf⟩ := tr_fld Tryz.underlying47 h
  rw [kE] at hl
  have h0 : Tr enc W base spare held m 9 ((cs.drop 0).take (Tryz.prog.cellsOf 9)) := hf 0 _ rfl
  rw [k9] at h0
  have h1 : Tr enc W base spare held m 45 ((cs.drop 1).take (Tryz.prog.cellsOf 45)) := hf 1 _ rfl
  rw [ksO] at h1
  obtain ⟨a, e0, _⟩ := tr_str h0
  obtain ⟨v, l, e1, q1, q2⟩ := tr_row (ec := encO) (z := 6) (Q := fun o => o.va.size ≤ maxLen) Tryz.underlying45 kO (by omega) h1 (fun m' hm' cs' h' => tr_opd h')
  exact ⟨⟨a, l⟩, q2, rdl_fld (a := 0) (z := 1) (rdl_lit e0) rfl (rdl_fld (z := 1) (rdl_val e1 q1) rfl (rdl_end hl))⟩
theorem tr_rule {n : Nat} {cs : List Value} (h : Tr enc W base spare held n 49 cs) : ∃ x : Rl, Szr x ∧ RdL W (encR x) cs := by
  obtain ⟨m, hm, hl, hf⟩ := tr_fld Tryz.underlying49 h
  rw [kR] at hl
  have h0 : Tr enc W base spare held m 9 ((cs.drop 0).take (Tryz.prog.cellsOf 9)) := hf 0 _ rfl
  rw [k9] at h0
  have h1 : Tr enc W base spare held m 42 ((cs.drop 1).take (Tryz.prog.cellsOf 42)) := hf 1 _ rfl
  rw [ksP] at h1
  have h2 : Tr enc W base spare held m 42 ((cs.drop 2).take (Tryz.prog.cellsOf 42)) := hf 2 _ rfl
  rw [ksP] at h2
  have h3 : Tr enc W base spare held m 43 ((cs.drop 3).take (Tryz.prog.cellsOf 43)) := hf 3 _ rfl
  rw [ksM] at h3
  have h4 : Tr enc W base spare held m 44 ((cs.drop 4).take (Tryz.prog.cellsOf 44)) := hf 4 _ rfl
  rw [ksK] at h4
  have h5 : Tr enc W base spare held m 47 ((cs.drop 5).take (Tryz.prog.cellsOf 47)) := hf 5 _ rfl
  rw [kE] at h5
  obtain ⟨a, e0, _⟩ := tr_str h0
  obtain ⟨v1, l1, e1, q1, p1⟩ := tr_row (ec := encP) (z := 18) (Q := fun p => Wsz p.c) Tryz.underlying42 kP (by omega) h1 (fun m' hm' cs' h' => tr_pat h')
  obtain ⟨v2, l2, e2, q2, p2⟩ := tr_row (ec := encP) (z := 18) (Q := fun p => Wsz p.c) Tryz.underlying42 kP (by omega) h2 (fun m' hm' cs' h' => tr_pat h')
  obtain ⟨v3, l3, e3, q3, p3⟩ := tr_row (ec := encM) (z := 20) (Q := fun x => Wsz x.p.c) Tryz.underlying43 kM (by omega) h3 (fun m' hm' cs' h' => tr_many h')
  obtain ⟨v4, l4, e4, q4, p4⟩ := tr_row (ec := encK) (z := 3) (Q := fun x => x.l.size ≤ maxLen ∧ x.r.size ≤ maxLen) Tryz.underlying44 kK (by omega) h4 (fun m' hm' cs' h' => tr_link h')
  obtain ⟨x5, p5, e5⟩ := tr_emit h5
  exact ⟨⟨a, l1, l2, l3, l4, x5⟩, ⟨p1, p2, p3, p4, p5⟩, rdl_fld (a := 0) (z := 1) (rdl_lit e0) rfl (rdl_fld (z := 1) (rdl_val e1 q1) rfl (rdl_fld (z := 1) (rdl_val e2 q2) rfl (rdl_fld (z := 1) (rdl_val e3 q3) rfl (rdl_fld (z := 1) (rdl_val e4 q4) rfl (by simpa using rdl_fld (z := 2) e5 rfl (rdl_end hl))))))⟩
theorem open_book (hv : Value.okWide Tryz.prog W r b0 25 v) (h : DataW.Trod enc Tryz.prog W base spare held 25 v d p) : ∃ (ts : List Tp) (rs : List Rl) (tv rv : Value), v = .agg #[tv, rv] ∧ Rd W (.row 72 2 (ts.map encY)) tv ∧ Rd W (.row 49 7 (rs.map encR)) rv ∧ ∀ x, x ∈ rs → Szr x := by
 obtain ⟨cs, rfl, hsz⟩ := okWide_struct Tryz.underlying25 hv
 obtain ⟨fuel, hf⟩ := h
 have h : Tr enc W base spare held fuel 25 cs.toList := ⟨_, by simpa [Value.cells] using hf⟩
 clear hf
 obtain ⟨m, hm, hl, hf⟩ := tr_fld Tryz.underlying25 h
 rw [kB] at hl
 have h0 : Tr enc W base spare held m 22 ((cs.toList.drop 0).take (Tryz.prog.cellsOf 22)) := hf 0 _ rfl
 rw [ksY] at h0
 have h1 : Tr enc W base spare held m 23 ((cs.toList.drop 1).take (Tryz.prog.cellsOf 23)) := hf 1 _ rfl
 rw [ksR] at h1
 obtain ⟨tv, ts, e0, q0, _⟩ := tr_row (ec := encY) (z := 2) (Q := fun _ => True) Tryz.underlying22 kY (by omega) h0 (fun m' hm' cs' h' => tr_type h')
 obtain ⟨rv, rs, e1, q1, p1⟩ := tr_row (ec := encR) (z := 7) (Q := Szr) Tryz.underlying23 kR (by omega) h1 (fun m' hm' cs' h' => tr_rule h')
 refine ⟨ts, rs, tv, rv, ?_, q0, q1, p1⟩
 obtain ⟨l⟩ := cs
 match l, hl with
 | [x, y], _ =>
  simp at e0 e1
  rw [e0, e1]
theorem rdl_oneX {w : World} : ∀ {L : List Ev} {xs : List Value}, RdL w (L.map encX).flatten xs → xs.length = L.length * 5 ∧ ∀ u, u ∈ xs → u.oneCell' = true
 | [], xs, h => by rw [RdL.none h]; exact ⟨rfl, fun u hu => by cases hu⟩
 | p :: L, xs, h => by
  obtain ⟨us, rs, rfl, h1, h2⟩ := RdL.split (ds := encX p) (es := (L.map encX).flatten) h
  obtain ⟨a, b⟩ := rdl_oneX h2
  obtain ⟨v, rfl, h3⟩ := rdX h1
  obtain ⟨x, y, z, rfl⟩ := rd_shape h3
  refine ⟨by rw [List.length_append, a]; simp [List.length_cons]; omega, fun u hu => ?_⟩
  rcases List.mem_append.1 hu with hu | hu
  . exact List.all_eq_true.1 (show ([.int .i64 p.n, .int .i64 p.t, .int .i64 p.st, .int .i64 p.en, .slice x y z] : List Value).all (·.oneCell') = true from rfl) u hu
  . exact b u hu
abbrev zX : Value := .agg #[.int .i64 0, .int .i64 0, .int .i64 0, .int .i64 0, .slice none 0 0]
theorem infoX : (Tryz.prog.info? 30).map (fun i => (i.zero, i.size, i.bytes)) = some (some zX, 5, 56) := by kernel_rfl
theorem rd_ownX {w0 w : World} {v : Value} {L : List Ev} {xs : List Value} (h1 : w.ownsRow w0.heap.size 30 5 v L.length xs) (h2 : RdL w (L.map encX).flatten xs) : Rd w (.row 30 5 (L.map encX)) v := by
 have hc := h1
 rcases h1.2 with ⟨rfl, h5⟩ | ⟨ga, cap, cur, rfl, _, _, hn, hx, _⟩
 . obtain rfl : L = [] := List.eq_nil_of_length_eq_zero h5
   exact .nil _ _ none 0 (Nat.zero_le _)
 . by_cases h0 : 0 < L.length
   . have := Rd.row (w := w) 30 5 (L.map encX) ga 0 cap xs (by simpa using h0) (by simpa using hn) hx (fun j u hu => by
      have := hc.cells (g := ga) rfl j u hu
      rw [Addr.add_mid] at this
      simpa using this) h2.1 h2.2
     simpa using this
   . obtain rfl : L = [] := List.eq_nil_of_length_eq_zero (by omega)
     exact .nil _ _ _ cap hx
theorem run_copyX (w : World) (ty : TypeId) {v : Value} {l : List Ev} (hu : Rd w (.row 30 5 (l.map encX)) v) (hb : l.length * 56 ≤ 140737488355328) :
  ∃ v' w', (Builtin.append_ #[31, 31] ty #[.slice none 0 0, v]).run Tryz.prog w = .ok v' w' ∧ Rd w' (.row 30 5 (l.map encX)) v' ∧ Below w.heap.size w w' := by
 obtain ⟨i0, hi, hz0, hz1, hz2⟩ := info_parts infoX
 generalize hd : Dat.row 30 5 (l.map encX) = d at hu
 cases hu with
 | lit v => cases hd
 | nil e z p cap h1 =>
  simp only [Dat.row.injEq] at hd
  obtain rfl : l = [] := List.eq_nil_of_length_eq_zero (by have := congrArg List.length hd.2.2; simpa using this)
  refine ⟨.slice none 0 0, w, ?_, ?_, Below.refl _ _⟩
  . cases p <;> simp [Builtin.append_, run_underlying Tryz.underlying31, sizeOf, typeInfo, hi, Builtin.lenOf, Builtin.firstCells, loadCells, loadCellsFrom]
  . obtain ⟨rfl, rfl, _⟩ := hd
    exact .nil _ _ none 0 (Nat.zero_le _)
 | row e' z' l' g off cap xs h1 h2 h3 h4 h5 h6 =>
  simp only [Dat.row.injEq] at hd
  obtain ⟨rfl, rfl, rfl⟩ := hd
  have hR : RdL w (l.map encX).flatten xs := ⟨h5, h6⟩
  obtain ⟨c1, c2⟩ := rdl_oneX hR
  rw [List.length_map]
  have hl0 : 0 < l.length := by simpa using h1
  obtain ⟨v', w', r1, r2, r3, _, r5⟩ := run_append_own_at (P := Tryz.prog) w w.heap.size 31 ty 30 i0 zX 5 56 Tryz.underlying31 hi hz0 hz1 hz2 rfl (by omega) (.slice none 0 0) 0 [] (World.ownsRow_nil w w.heap.size 30 5) ⟨g, off, none⟩ l.length cap xs c1 (fun j u hj => by rw [Addr.add_mid]; exact h4 j u hj) c2 (by unfold maxLen; omega) (by omega) (Nat.le_refl _)
  have hB : Below w.heap.size w w' := (Below.refl _ _).grown r3 (Nat.le_refl _) (fun k hk => by cases hk)
  exact ⟨v', w', r1, rd_ownX (w0 := w) (by simpa using r2) (hR.below hB), hB⟩
theorem step_copyX (w : World) {ops : Array Oper} {o : Oper} {a : Act} {K : Act → World → Prop} {Q : Exit → Act → World → Prop} {E : Prop} (hgd : o.guard = none) (s x : Operand)
  (ho : o.op = .call { callee := .builtin .append, args := #[s, x], argTypes := #[31, 31] }) (v : Value) (l : List Ev) (hs : a.eval s = .slice none 0 0) (hx : a.eval x = v) (hd : Rd w (.row 30 5 (l.map encX)) v) (hb : l.length * 56 ≤ 140737488355328)
  (h : ∀ v' w', Rd w' (.row 30 5 (l.map encX)) v' → Below w.heap.size w w' → K (a.put o.dst v') w') :
  if Region.wanted o (yielded ops a.tmps) = true then Oper.wp Tryz.prog o a w K Q else E := by
 have hw : Region.wanted o (yielded ops a.tmps) = true := by simp [Region.wanted, hgd]
 rw [if_pos hw]
 obtain ⟨v', w', hr, h2, h3⟩ := run_copyX w o.type hd hb
 unfold Oper.wp execOp
 simp only [ho, resolve, invoke, builtin, Sem.run_bind, Sem.run_pure, Result.andThen_ok, List.map_toArray, List.map_cons, List.map_nil, hs, hx, hr]
 exact h v' w' h2 h3
section
variable {H : Type} {enc : TypeId × Value → H} {W : World} {base b0 : Nat} {r : Reach} {spare : Nat → Bool} {held : Bool} {v : Value} {d : DataW H} {p : List MemPlace}
theorem kX : Tryz.prog.cellsOf 30 = 5 := by kernel_rfl
theorem kSp : Tryz.prog.cellsOf 27 = 2 := by kernel_rfl
theorem ksV : Tryz.prog.cellsOf 28 = 1 := by kernel_rfl
theorem tr_span {n : Nat} {cs : List Value} (h : Tr enc W base spare held n 27 cs) : ∃ a b : Int, RdL W [.lit (.int .i64 a), .lit (.int .i64 b)] cs := by
  obtain ⟨m, hm, hl, hf⟩ := tr_fld Tryz.underlying27 h
  rw [kSp] at hl
  have h0 : Tr enc W base spare held m 3 ((cs.drop 0).take (Tryz.prog.cellsOf 3)) := hf 0 _ rfl
  rw [k3] at h0
  have h1 : Tr enc W base spare held m 3 ((cs.drop 1).take (Tryz.prog.cellsOf 3)) := hf 1 _ rfl
  rw [k3] at h1
  obtain ⟨a, e0⟩ := tr_int h0
  obtain ⟨b, e1⟩ := tr_int h1
  exact ⟨a, b, rdl_fld (a := 0) (z := 1) (rdl_lit e0) rfl (rdl_fld (z := 1) (rdl_lit e1) rfl (rdl_end hl))⟩
theorem tr_event {n : Nat} {cs : List Value} (h : Tr enc W base spare held n 30 cs) : ∃ x : Ev, True ∧ RdL W (encX x) cs := by
  obtain ⟨m, hm, hl, hf⟩ := tr_fld Tryz.underlying30 h
  rw [kX] at hl
  have h0 : Tr enc W base spare held m 3 ((cs.drop 0).take (Tryz.prog.cellsOf 3)) := hf 0 _ rfl
  rw [k3] at h0
  have h1 : Tr enc W base spare held m 3 ((cs.drop 1).take (Tryz.prog.cellsOf 3)) := hf 1 _ rfl
  rw [k3] at h1
  have h2 : Tr enc W base spare held m 27 ((cs.drop 2).take (Tryz.prog.cellsOf 27)) := hf 2 _ rfl
  rw [kSp] at h2
  have h3 : Tr enc W base spare held m 28 ((cs.drop 4).take (Tryz.prog.cellsOf 28)) := hf 3 _ rfl
  rw [ksV] at h3
  obtain ⟨a, e0⟩ := tr_int h0
  obtain ⟨b, e1⟩ := tr_int h1
  obtain ⟨s, t, e2⟩ := tr_span h2
  obtain ⟨v, l, e3, q3, _⟩ := tr_row (ec := encV) (z := 3) (Q := fun _ => True) Tryz.underlying28 kV (by omega) h3 (fun m' hm' cs' h' => by obtain ⟨k, i, s, h9⟩ := tr_val h'; exact ⟨⟨k, i, s⟩, trivial, h9⟩)
  exact ⟨⟨a, b, s, t, l⟩, trivial, rdl_fld (a := 0) (z := 1) (rdl_lit e0) rfl (rdl_fld (z := 1) (rdl_lit e1) rfl (rdl_fld (z := 2) e2 rfl (rdl_fld (z := 1) (rdl_val e3 q3) rfl (rdl_end hl))))⟩
theorem open_event (hv : Value.okWide Tryz.prog W r b0 30 v) (h : DataW.Trod enc Tryz.prog W base spare held 30 v d p) : ∃ (x : Ev) (u : Value), v = evV x u ∧ Rd W (.row 59 3 (x.v.map encV)) u := by
  obtain ⟨cs, rfl, hsz⟩ := okWide_struct Tryz.underlying30 hv
  obtain ⟨fuel, hf⟩ := h
  have h : Tr enc W base spare held fuel 30 cs.toList := ⟨_, by simpa [Value.cells] using hf⟩
  obtain ⟨x, _, hr⟩ := tr_event h
  obtain ⟨u, z1, o2⟩ := rdX hr
  obtain ⟨l⟩ := cs
  simp only at z1
  subst z1
  exact ⟨x, u, rfl, o2⟩
theorem open_events (hv : Value.okWide Tryz.prog W r b0 31 v) (h : DataW.Trod enc Tryz.prog W base spare held 31 v d p) : ∃ l : List Ev, Rd W (.row 30 5 (l.map encX)) v := by
  obtain ⟨s, n, c, rfl⟩ := okWide_slice Tryz.underlying31 hv
  obtain ⟨fuel, hf⟩ := h
  have h : Tr enc W base spare held fuel 31 [.slice s n c] := ⟨_, by simpa [Value.cells] using hf⟩
  obtain ⟨v, l, e, q, _⟩ := tr_row (ec := encX) (z := 5) (Q := fun _ => True) Tryz.underlying31 kX (by omega) h (fun m' hm' cs' h' => tr_event h')
  simp only [List.cons.injEq, and_true] at e
  subst e
  exact ⟨l, q⟩
theorem bytesX : Tryz.prog.bytesOf 30 = 56 := by kernel_rfl
theorem evs_bound {ts : List TypeId} {ds : List (DataW H)} {j : Nat} {l : List Ev} (hv : Rd W (.row 30 5 (l.map encX)) v) (h : DataW.Trod enc Tryz.prog W base spare held 31 v d p) (hsz : (DataW.weightsEach Tryz.prog ts ds).all (· ≤ reachBytes) = true) (h1 : ts[j]? = some 31) (h2 : ds[j]? = some d) : l.length * 56 ≤ 140737488355328 := by
 obtain ⟨a, cap, rfl, _, _⟩ := rd_row lenX hv
 generalize l.length = len at h ⊢
 rcases slice_len Tryz.underlying31 h with rfl | ⟨elems, sp, rfl, rfl⟩
 . omega
 . have := sized_slice hsz h1 h2 Tryz.underlying31
   rw [bytesX] at this
   have hr : reachBytes ≤ 140737488355328 := by decide
   have e : elems.length * 56 ≤ (elems.length + sp.length) * 56 := Nat.mul_le_mul_right _ (by omega)
   omega
end
end Go.Proofs.YthndlfdbmljkhaaGreatDoor.Chk
namespace Go.Proofs.YthndlfdbmljkhaaGreatDoor.Chk
open Go.ChangeShapes Go.WideShapes Go.ChangeAt Go.RowKit Go.Maps
set_option linter.unusedVariables false
set_option linter.unusedSimpArgs false
set_option maxRecDepth 20000
theorem prt_off {part : Int} (r : Rl) (h : ¬ (0 ≤ part ∧ part ≤ 2)) : prt part r = [] := by
  unfold prt
  rw [if_neg (by omega), if_neg (by omega), if_neg (by omega)]
theorem takenBy_any (ts : List Tp) (rs : List Rl) (hzz : ∀ r, r ∈ rs → Szr r) (tv rv : Value) (rule part at_ : Int) (x : Ev) (u : Value) (kn : List Ev) (kv : Value) (w : World) (hT : Rd w (.row 72 2 (ts.map encY)) tv) (hR : Rd w (.row 49 7 (rs.map encR)) rv) (hu : Rd w (.row 59 3 (x.v.map encV)) u) (hK : Rd w (.row 30 5 (kn.map encX)) kv) :
   Calls Tryz.prog 6 #[.agg #[tv, rv], .int .i64 rule, .int .i64 part, .int .i64 at_, evV x u, kv] w fun e w' => e = .returned (.tuple #[.bool (tkr ts rs rule part at_ x kn).1, .int .i64 (tkr ts rs rule part at_ x kn).2]) ∧ Below w.heap.size w w' := by
 by_cases hb : bok ts rs = 0
 . by_cases hr : 0 ≤ rule ∧ rule < (rs.length : Int)
   . by_cases hp : 0 ≤ part ∧ part ≤ 2
     . obtain ⟨k, rfl⟩ : ∃ k : Nat, rule = (k : Int) := ⟨rule.toNat, by omega⟩
       rcases (by omega : part = 0 ∨ part = 1 ∨ part = 2) with rfl | rfl | rfl
       . exact tb_main0 ts rs hzz tv rv at_ x u kn kv w hT hR hu hK hb k (by omega) _ rfl
       . exact tb_main1 ts rs hzz tv rv at_ x u kn kv w hT hR hu hK hb k (by omega) _ rfl
       . exact tb_main2 ts rs hzz tv rv at_ x u kn kv w hT hR hu hK hb k (by omega) _ rfl
     . have e : tkr ts rs rule part at_ x kn = (false, 2) := by
         unfold tkr
         rw [if_neg (fun c => c hb), if_neg (fun c => c hr), if_pos (by rw [prt_off _ hp]; first | (simp; done) | (simp; omega))]
       rw [e]
       exact tb_off ts rs hzz tv rv rule part at_ x u kn kv w hT hR hu hK hb true (by show _ ↔ _; simp; omega) false (by show _ ↔ _; simp; omega) rfl
   . have e : tkr ts rs rule part at_ x kn = (false, 2) := by unfold tkr; rw [if_neg (fun c => c hb), if_pos hr]
     rw [e]
     by_cases hp : 0 ≤ part ∧ part ≤ 2
     . exact tb_off ts rs hzz tv rv rule part at_ x u kn kv w hT hR hu hK hb false (by show _ ↔ _; simp; omega) true (by show _ ↔ _; simp; omega) rfl
     . exact tb_off ts rs hzz tv rv rule part at_ x u kn kv w hT hR hu hK hb false (by show _ ↔ _; simp; omega) false (by show _ ↔ _; simp; omega) rfl
 . have e : tkr ts rs rule part at_ x kn = (false, bok ts rs) := by unfold tkr; rw [if_pos hb]
   rw [e]
   exact tb_bad ts rs hzz tv rv rule part at_ x u kn kv w hT hR hu hK hb
theorem step_call6 {ops : Array Oper} {o : Oper} {a : Act} {w : World} {K : Act → World → Prop} {Q : Exit → Act → World → Prop} {E : Prop} (f : FuncId) (he : ∀ args w, (callFunc f args).run Tryz.prog w = .ok (.enter f args) w) (hw : Region.wanted o (yielded ops a.tmps) = true) (x1 x2 x3 x4 x5 x6 : Operand) (ts : Array TypeId) (ho : o.op = .call { callee := .value (.func f), args := #[x1, x2, x3, x4, x5, x6], argTypes := ts }) (u1 u2 u3 u4 u5 u6 : Value) (h1 : a.eval x1 = u1) (h2 : a.eval x2 = u2) (h3 : a.eval x3 = u3) (h4 : a.eval x4 = u4) (h5 : a.eval x5 = u5) (h6 : a.eval x6 = u6)
  (R : Ending → World → Prop) (hc : Calls Tryz.prog f #[u1, u2, u3, u4, u5, u6] w R) (h : ∀ e w', R e w' → ∃ v, e = .returned v ∧ K (a.put o.dst v) w') :
  if Region.wanted o (yielded ops a.tmps) = true then Oper.wp Tryz.prog o a w K Q else E := by
 rw [if_pos hw]
 unfold Oper.wp execOp
 have hf : a.eval (.func f) = Value.func (Fn.func f) #[] #[] := rfl
 simp [ho, resolve, invoke, Deferred.ofValue, hf, h1, h2, h3, h4, h5, h6, he]
 refine hc.mono ?_
 intro e w' hr
 obtain ⟨v, rfl, hk⟩ := h e w' hr
 exact hk
theorem ent_tkp : ∀ args w, (callFunc 5 args).run Tryz.prog w = .ok (.enter 5 args) w := enters_of Tryz.func5 (by kernel_rfl) rfl
set_option maxHeartbeats 32000000 in
theorem siftTakes_walk (ts : List Tp) (rs : List Rl) (hzz : ∀ r, r ∈ rs → Szr r) (tv rv : Value) (rule part at_ : Int) (x : Ev) (u : Value) (kn : List Ev) (kv : Value) (w : World) (hT : Rd w (.row 72 2 (ts.map encY)) tv) (hR : Rd w (.row 49 7 (rs.map encR)) rv) (hu : Rd w (.row 59 3 (x.v.map encV)) u) (hK : Rd w (.row 30 5 (kn.map encX)) kv) (htk : Tab w 0 kpl) (htr : Tab w 1 rll) (hb : kn.length * 56 ≤ 140737488355328) :
   Calls Tryz.prog 3 #[.agg #[tv, rv], .int .i64 rule, .int .i64 part, .int .i64 at_, evV x u, kv] w fun e w' => e = .returned (.bool true) ∧ Below w.heap.size w w' := by
 obtain ⟨R, hRR⟩ : ∃ R, (tkr ts rs rule part at_ x kn).1 = R := ⟨_, rfl⟩
 obtain ⟨F, hFF⟩ : ∃ F, (tkr ts rs rule part at_ x kn).2 = F := ⟨_, rfl⟩
 obtain ⟨tp, tn, tc, hte⟩ := rd_shape hT
 obtain ⟨rp, rn, rc, hre⟩ := rd_shape hR
 obtain ⟨kp, n, kc, hle⟩ := rd_shape hK
 obtain ⟨up, un, uc, hue⟩ := rd_shape hu
 obtain ⟨UL, hUL⟩ : ∃ UL : List Value, [tv, rv] = UL := ⟨_, rfl⟩
 obtain ⟨XV, hXV⟩ : ∃ XV : List Value, ([.int .i64 x.n, .int .i64 x.t, .int .i64 x.st, .int .i64 x.en, u] : List Value) = XV := ⟨_, rfl⟩
 have hsv : (Value.agg #[tv, rv]) = .agg UL.toArray := by rw [← hUL]
 have hxv : evV x u = .agg XV.toArray := by rw [← hXV]
 have HC : Hid (∀ W kv', Below w.heap.size w W → Rd W (.row 30 5 (kn.map encX)) kv' → Calls Tryz.prog 5 #[.agg UL.toArray, .int .i64 rule, .int .i64 part, .int .i64 at_, .agg XV.toArray, kv'] W fun e w' => e = .returned (.tuple #[.bool R, .int .i64 F]) ∧ Below W.heap.size W w') := fun W kv' hW hl => by rw [← hsv, ← hxv, ← hRR, ← hFF]; exact takesP_any ts rs hzz tv rv rule part at_ x u kn kv' W (hT.later hW) (hR.later hW) (tab_later htk hW) (tab_later htr hW) (hu.later hW) hl
 have HF : Hid (∀ W, Below w.heap.size w W → Calls Tryz.prog 6 #[.agg UL.toArray, .int .i64 rule, .int .i64 part, .int .i64 at_, .agg XV.toArray, kv] W fun e w' => e = .returned (.tuple #[.bool R, .int .i64 F]) ∧ Below W.heap.size W w') := fun W hW => by rw [← hsv, ← hxv, ← hRR, ← hFF]; exact takenBy_any ts rs hzz tv rv rule part at_ x u kn kv W (hT.later hW) (hR.later hW) (hu.later hW) (hK.later hW)
 have ZU : Hid ((Tryz.prog.info? 25).map (·.size) = some UL.length) := by show _ = _; rw [← hUL]; kernel_rfl
 have ZX : Hid ((Tryz.prog.info? 30).map (·.size) = some XV.length) := by show _ = _; rw [← hXV]; kernel_rfl
 rw [hsv, hxv]
 subst hle
 have HK := hid hK
 have HBN := hid hb
 have hB := bxs2 w UL XV 25 30
 have HBD := hid (hB.next (Below.drew (Below.refl _ _)))
 clear hT hR hu hK htk htr hzz hRR hFF hsv hxv hUL hXV hte hre hue hb hB
 go_enter Tryz.func3, Tryz.ntmps3
 go_wp2_with fail
 refine start_n (S := (fun w' => Bxs w w' [(UL, 25), (XV, 30)])) 13 #[false, false, false, false, false, false, false, false, false, false, false, false, false] rfl rfl (by kernel_rfl) (HBD.out) (fun hHeld => ?_)
 refine tkq (i := 1) (v := ?v1) rfl ?hy1 ?rest1; (case hy1 => intro w0 hSw; (try dsimp only at hSw); go_simp <;> (try (with_reducible rfl))); (try simp only [puts])
 refine tkq (i := 2) (v := ?v2) rfl ?hy2 ?rest2; (case hy2 => intro w0 hSw; (try dsimp only at hSw); go_simp <;> (try (with_reducible rfl))); (try simp only [puts])
 refine tkq (i := 3) (v := ?v3) rfl ?hy3 ?rest3; (case hy3 => intro w0 hSw; (try dsimp only at hSw); go_simp <;> (try (with_reducible rfl))); (try simp only [puts])
 refine tkq (i := 5) (v := ?v4) rfl ?hy4 ?rest4; (case hy4 => intro w0 hSw; (try dsimp only at hSw); go_simp <;> (try (with_reducible rfl))); (try simp only [puts])
 refine tlq (i := 0) rfl (yieldsIf_load_mid (by rfl) 25 _ rfl w.heap.size (0) (by rfl) UL _ (fun _ h => h.r 0 (by simp)) Tryz.underlying25 rfl ZU.out) ?_
 (try simp only [puts])
 refine tlq (i := 4) rfl (yieldsIf_load_mid (by rfl) 30 _ rfl (w.heap.size + 1) (0) (by rfl) XV _ (fun _ h => h.r 1 (by simp)) Tryz.underlying30 rfl ZX.out) ?_
 (try simp only [puts])
 refine wpAnyH_ready (rs := [6]) (by kernel_rfl) (by simp) ?_
 refine cons_mk rfl (fun K hK => ?_) AllReadyH.nil
 refine step_copyX _ (by rfl) _ _ (by rfl) (.slice kp n kc) kn (by rfl) (by rfl) (HK.out.later HBD.out.bel) HBN.out ?_
 intro v' w3 hrd3 hb3
 obtain ⟨cp, cn, cc, rfl⟩ := rd_shape hrd3
 have HRD3 := hid hrd3
 have HB3 := hid (HBD.out.next hb3)
 clear hrd3 hb3
 refine hK.out _ _ (HB3.out) (fun hHeld => ?_)
 clear hK K
 (try simp only [puts])
 refine wpAnyH_ready (rs := [7]) (by kernel_rfl) (by simp) ?_
 refine cons_mk rfl (fun K hK => ?_) AllReadyH.nil
 refine step_call6 5 ent_tkp (by rfl) _ _ _ _ _ _ _ (by rfl) (.agg UL.toArray) (.int .i64 rule) (.int .i64 part) (.int .i64 at_) (.agg XV.toArray) (.slice cp cn cc) (by rfl) (by rfl) (by rfl) (by rfl) (by rfl) (by rfl) _ (HC.out _ _ HB3.out.bel HRD3.out) ?_
 rintro e w4 ⟨rfl, hb4⟩
 refine ⟨_, rfl, ?_⟩
 have HB4 := hid (HB3.out.next hb4)
 clear hb4
 refine hK.out _ _ (HB4.out) (fun hHeld => ?_)
 clear hK K
 (try simp only [puts])
 refine tkq (i := 8) (v := ?v5) rfl ?hy5 ?rest5; (case hy5 => intro w0 hSw; (try dsimp only at hSw); go_simp <;> (try (with_reducible rfl))); (try simp only [puts])
 refine tkq (i := 9) (v := ?v6) rfl ?hy6 ?rest6; (case hy6 => intro w0 hSw; (try dsimp only at hSw); go_simp <;> (try (with_reducible rfl))); (try simp only [puts])
 refine tkq (i := 10) (v := ?v7) rfl ?hy7 ?rest7; (case hy7 => intro w0 hSw; (try dsimp only at hSw); go_simp <;> (try (with_reducible rfl))); (try simp only [puts])
 refine tkq (i := 11) (v := ?v8) rfl ?hy8 ?rest8; (case hy8 => intro w0 hSw; (try dsimp only at hSw); go_simp <;> (try (with_reducible rfl))); (try simp only [puts])
 refine tkq (i := 12) (v := ?v9) rfl ?hy9 ?rest9; (case hy9 => intro w0 hSw; (try dsimp only at hSw); go_simp <;> (try (with_reducible rfl))); (try simp only [puts])
 refine wpAnyH_done (by kernel_rfl) ?_ _
 have XU := hid (HB4.out.r 0 (by simp))
 have XX := hid (HB4.out.r 1 (by simp))
 go_wp2_with (first
   | ((with_reducible show wpList _ _ _ (Oper.mk _ (.load 25 _) _ _ _ _ :: _) _ _); refine wpList_load_mid (by rfl) 25 _ (by rfl) w.heap.size 0 (by rfl) UL _ XU.out Tryz.underlying25 rfl ZU.out ?_)
   | ((with_reducible show wpList _ _ _ (Oper.mk _ (.load 30 _) _ _ _ _ :: _) _ _); refine wpList_load_mid (by rfl) 30 _ (by rfl) (w.heap.size + 1) 0 (by rfl) XV _ XX.out Tryz.underlying30 rfl ZX.out ?_))
 refine (HF.out _ HB4.out.bel).mono ?_
 rintro e w5 ⟨rfl, hb5⟩
 have HB5 := hid (HB4.out.next hb5)
 clear hb5
 cases R
 . go_wp2_with fail
   go_ret
   exact ⟨ret_bool (by simp), HB5.out.bel⟩
 . go_wp2_with fail
   go_ret
   exact ⟨ret_bool (by simp), HB5.out.bel⟩
end Go.Proofs.YthndlfdbmljkhaaGreatDoor.Chk
namespace Go.Proofs.YthndlfdbmljkhaaGreatDoor
open Go.ChangeShapes Go.WideShapes Go.ChangeAt Go.RowKit Go.Joins
set_option linter.unusedVariables false
set_option linter.unusedSimpArgs false
theorem laid_strs {W : World} {l : List (String × DataW Unit)} {name : String} {D : DataW Unit} {g : Nat} {ty : TypeId} {n : Nat} (ws : List (List UInt8)) (hD : D = .agg (ws.map fun x => .lit (.string x))) (hn : ws.length = n) (h0 : 0 < ws.length)
  (hg : Tryz.prog.globalNamed name = some g) (ht : (Tryz.prog.globals[g]?).map (·.type) = some ty) (hu : Tryz.prog.underlying ty = some (.array n 9)) (hm : (name, D) ∈ l) (h : laidMet Tryz.prog l W) : Tab W g ws := by
 obtain ⟨g0, t0, cs0, f0, p0, hg0, ht0, hv0, hd0⟩ := Lib.laidMet.reads h hm
 obtain rfl := Option.some.inj (hg.symm.trans hg0)
 obtain rfl := Option.some.inj (ht.symm.trans ht0)
 have c9 : Tryz.prog.cellsOf 9 = 1 := by kernel_rfl
 obtain ⟨xs, m, rfl, hx, hlen, hnn, hel⟩ := DataW.trod_array hu hd0
 rw [hD] at hx
 simp only [Prod.mk.injEq, DataW.agg.injEq] at hx
 have hxl := hx.1
 have key : ∀ i : Nat, i < ws.length → W.cell? ⟨g, i, none⟩ = some (.string (txt (ws.getD i []))) := by
  intro i hi
  have he := hel i (by omega)
  rw [c9] at he
  have hlt : i < xs.length := by omega
  rw [List.getElem?_eq_getElem hlt] at he
  obtain ⟨k, e1, e2, _⟩ := DataW.trod_string Tryz.underlying9 he
  have hk := congrArg (fun q => q[i]?) hxl
  simp only [List.getElem?_map, List.getElem?_eq_getElem hlt, List.getElem?_eq_getElem hi, Option.map_some, e2, Option.some.injEq, DataW.lit.injEq, Lit.string.injEq] at hk
  have hc := World.var?_cell hg0 hv0 i
  rw [hc]
  have e4 : cs0.toList[i]? = some (.string k) := by
   have := congrArg (fun l => l[0]?) e1
   simpa using this
  rw [getD_eq ws i hi, hk, txt_of]
  simpa using e4
 refine ⟨?_, key⟩
 have h00 := key 0 (by omega)
 exact World.block_lt_of_cell? _ _ h00
theorem laid_kept {W : World} {l : List (String × DataW Unit)} (hm : ("dotterel/parse.kept", Rows.laid_dotterel_parse_kept) ∈ l) (h : laidMet Tryz.prog l W) : Tab W 0 kpl :=
  laid_strs kpl rfl rfl (by decide) (by kernel_rfl) (by kernel_rfl) Tryz.underlying156 hm h
theorem laid_rel {W : World} {l : List (String × DataW Unit)} (hm : ("dotterel/parse.relations", Rows.laid_dotterel_parse_relations) ∈ l) (h : laidMet Tryz.prog l W) : Tab W 1 rll :=
  laid_strs rll rfl rfl (by decide) (by kernel_rfl) (by kernel_rfl) Tryz.underlying193 hm h
end Go.Proofs.YthndlfdbmljkhaaGreatDoor
