/-
  What types of the program hold; a condition's cells. Parts of a condition with a word between them. Conditions, nested as deep as they may be. A pattern.
-/
import Derived.Test.YthndlfdbmljkhaaGreatDoorE
import Derived.Test.YthndlfdbmljkhaaGreatDoorO
import Derived.Deep.LoopGhost
import Derived.Defers
namespace Go.Proofs.YthndlfdbmljkhaaGreatDoor
open Go.ChangeShapes Go.WideShapes Go.ChangeAt Go.RowKit Go.Maps
set_option linter.unusedVariables false
set_option linter.unusedSimpArgs false
abbrev zO : Value := .agg #[.int .i64 0, .int .i64 0, .int .i64 0, .string ByteArray.empty, .string ByteArray.empty, .string ByteArray.empty]
abbrev zC : Value := .agg #[.int .i64 0, .slice none 0 0, .int .i64 0, .int .i64 0, .int .i64 0, .string ByteArray.empty, .string ByteArray.empty, .string ByteArray.empty, .int .i64 0, .int .i64 0, .int .i64 0, .string ByteArray.empty, .string ByteArray.empty, .string ByteArray.empty]
theorem infoO : (Tryz.prog.info? 61).map (fun i => (i.zero, i.size, i.bytes)) = some (some zO, 6, 72) := by kernel_rfl
theorem infoC : (Tryz.prog.info? 63).map (fun i => (i.zero, i.size, i.bytes)) = some (some zC, 14, 176) := by kernel_rfl
theorem infoF : (Tryz.prog.info? 93).map (fun i => (i.zero, i.size, i.bytes)) = some (some (.agg #[.string ByteArray.empty, .int .i64 0]), 2, 24) := by kernel_rfl
theorem infoQ : (Tryz.prog.info? 108).map (fun i => (i.zero, i.size, i.bytes)) = some (some (.agg #[.int .i64 0, .int .i64 0, .int .i64 0]), 3, 24) := by kernel_rfl
theorem infoK : (Tryz.prog.info? 103).map (fun i => (i.zero, i.size, i.bytes)) = some (some (.agg #[.string ByteArray.empty, .slice none 0 0, .string ByteArray.empty]), 3, 56) := by kernel_rfl
theorem infoY : (Tryz.prog.info? 72).map (fun i => (i.zero, i.size, i.bytes)) = some (some (.agg #[.string ByteArray.empty, .slice none 0 0]), 2, 40) := by kernel_rfl
theorem infoR : (Tryz.prog.info? 49).map (fun i => (i.zero, i.size, i.bytes)) = some (some (.agg #[.string ByteArray.empty, .slice none 0 0, .slice none 0 0, .slice none 0 0, .slice none 0 0, .string ByteArray.empty, .slice none 0 0]), 7, 152) := by kernel_rfl
abbrev zP : Value := .agg #[.string ByteArray.empty, .string ByteArray.empty, .int .i64 0, .slice none 0 0, .int .i64 0, .int .i64 0, .int .i64 0, .string ByteArray.empty, .string ByteArray.empty, .string ByteArray.empty, .int .i64 0, .int .i64 0, .int .i64 0, .string ByteArray.empty, .string ByteArray.empty, .string ByteArray.empty, .int .i64 0, .int .i64 0]
theorem infoP : (Tryz.prog.info? 65).map (fun i => (i.zero, i.size, i.bytes)) = some (some zP, 18, 224) := by kernel_rfl
abbrev zM : Value := .agg #[.int .i64 0, .string ByteArray.empty, .string ByteArray.empty, .string ByteArray.empty, .int .i64 0, .slice none 0 0, .int .i64 0, .int .i64 0, .int .i64 0, .string ByteArray.empty, .string ByteArray.empty, .string ByteArray.empty, .int .i64 0, .int .i64 0, .int .i64 0, .string ByteArray.empty, .string ByteArray.empty, .string ByteArray.empty, .int .i64 0, .int .i64 0]
theorem infoM : (Tryz.prog.info? 68).map (fun i => (i.zero, i.size, i.bytes)) = some (some zM, 20, 248) := by kernel_rfl
theorem lit_out {w : World} {S : Nat → Prop} {v u : Value} (h : Holds w S (.lit v) u) : u = v := by cases h; rfl
theorem HoldsL.one {w : World} {S : Nat → Prop} {d : Dat} {ds : List Dat} {vs : List Value} (h : HoldsL w S (d :: ds) vs) : ∃ v r, vs = v :: r ∧ Holds w S d v ∧ HoldsL w S ds r := by
  cases vs with
  | nil => simp [HoldsL] at h
  | cons v r => exact ⟨v, r, rfl, h.head⟩
theorem HoldsL.none {w : World} {S : Nat → Prop} {vs : List Value} (h : HoldsL w S [] vs) : vs = [] := List.eq_nil_of_length_eq_zero h.1.symm
theorem row_shape {w : World} {S : Nat → Prop} {e z : Nat} {l : List (List Dat)} {v : Value} (h : Holds w S (.row e z l) v) : ∃ p cap, v = .slice p l.length cap := by
  cases h with
  | row _ _ _ _ xs h1 h2 h3 h4 =>
    rcases h1.2 with ⟨h2, h3⟩ | ⟨g, cap, cur, h2, _⟩
    · exact ⟨Option.none, 0, by rw [h2, h3]⟩
    · exact ⟨_, cap, h2⟩
theorem encO_cells {w : World} {S : Nat → Prop} {o : Opd} {vs : List Value} (h : HoldsL w S (encO o) vs) : vs = opC o := by
  obtain ⟨v0, r0, rfl, h0, h⟩ := h.one
  obtain ⟨v1, r1, rfl, h1, h⟩ := h.one
  obtain ⟨v2, r2, rfl, h2, h⟩ := h.one
  obtain ⟨v3, r3, rfl, h3, h⟩ := h.one
  obtain ⟨v4, r4, rfl, h4, h⟩ := h.one
  obtain ⟨v5, r5, rfl, h5, h⟩ := h.one
  rw [lit_out h0, lit_out h1, lit_out h2, lit_out h3, lit_out h4, lit_out h5, h.none]
theorem holdsO (w : World) (S : Nat → Prop) (o : Opd) : HoldsL w S (encO o) (opC o) :=
  .cons (.lit _) (.cons (.lit _) (.cons (.lit _) (.cons (.lit _) (.cons (.lit _) (.cons (.lit _) (.nil _ _))))))
theorem HoldsL.split {w : World} {S : Nat → Prop} : ∀ {ds es : List Dat} {vs : List Value}, HoldsL w S (ds ++ es) vs → ∃ us rs, vs = us ++ rs ∧ HoldsL w S ds us ∧ HoldsL w S es rs
  | [], es, vs, h => ⟨[], vs, rfl, .nil _ _, h⟩
  | d :: ds, es, vs, h => by
    obtain ⟨v, r, rfl, h1, h2⟩ := HoldsL.one h
    obtain ⟨us, rs, rfl, h3, h4⟩ := h2.split
    exact ⟨v :: us, rs, rfl, .cons h1 h3, h4⟩
theorem encC_cells {w : World} {S : Nat → Prop} {c : Cn} {vs : List Value} (h : HoldsL w S (encC c) vs) : ∃ p cap, vs = cnC c.k (.slice p c.sb.length cap) c.l c.r ∧ Holds w S (.row 63 14 c.sb) (.slice p c.sb.length cap) := by
  obtain ⟨v0, r0, rfl, h0, h⟩ := h.one
  obtain ⟨v1, r1, rfl, h1, h⟩ := h.one
  obtain ⟨us, rs, rfl, h2, h3⟩ := h.split
  rw [encO_cells h2, encO_cells h3, lit_out h0]
  obtain ⟨p, cap, rfl⟩ := row_shape h1
  exact ⟨p, cap, rfl, h1⟩
theorem holdsC {w : World} {S : Nat → Prop} {c : Cn} {v : Value} (h : Holds w S (.row 63 14 c.sb) v) : HoldsL w S (encC c) (cnC c.k v c.l c.r) :=
  .cons (.lit _) (.cons h ((holdsO w S c.l).append (holdsO w S c.r)))
/-- The one element of a row of one. -/
theorem Row.only {w : World} {S : Nat → Prop} {e z : Nat} {v : Value} {d : List Dat} (h : Row w S e z v [d]) : ∃ gb cap xs, v = .slice (some ⟨gb, 0, none⟩) 1 cap ∧ w.rangeAt gb 0 xs ∧ HoldsL w S d xs := by
  obtain ⟨xs, h1, h2, h3⟩ := h
  have hc := h1
  rcases h1.2 with ⟨_, h4⟩ | ⟨gb, cap, cur, rfl, _⟩
  · simp at h4
  · refine ⟨gb, cap, xs, rfl, fun j u hu => ?_, ?_⟩
    · have := hc.cells (g := gb) rfl j u hu
      rw [Addr.add_mid] at this
      exact this
    · rw [show [d].flatten = d by simp] at h3
      exact h3.mono fun i hi _ => ⟨hi.1, rfl⟩
/-- A row of one element that was laid in a new block. -/
theorem Row.new {w : World} {b : Nat} {e z : Nat} {d : List Dat} {us : List Value} (hb : b ≤ w.heap.size) (hz : us.length = z) (hd : HoldsL w (fun i => b ≤ i) d us) : Row (w.alloc (.cells us.toArray e)) (fun i => b ≤ i) e z (.slice (some ⟨w.heap.size, 0, none⟩) 1 1) [d] := by
  refine ⟨us, ⟨by simpa using hz, .inr ⟨w.heap.size, 1, us.toArray, rfl, Nat.zero_le _, heap_alloc_new _ _, Nat.le_refl _, by decide, by simpa using hz, ?_⟩⟩, fun i hi => ?_, ?_⟩
  · rw [← hz]; simp
  · simp [Value.ownBlock] at hi
    show b ≤ i
    omega
  · rw [show [d].flatten = d by simp]
    refine hd.mono fun i hi hl => ⟨⟨hi, ?_⟩, Below.heap_alloc _ _ _ hl⟩
    simp [Value.ownBlock]
    omega
theorem Row.fr {w w' : World} {b g e z : Nat} {v : Value} {l : List (List Dat)} (h : Row w (fun i => b ≤ i) e z v l) (hf : Fr (fun i => i = g) w w') (hg : g < b) : Row w' (fun i => b ≤ i) e z v l :=
  h.mono fun i hi hl => ⟨hi, hf.block i hl (by show ¬ i = g; have : b ≤ i := hi; omega)⟩
theorem Row.on {w w' : World} {S : Nat → Prop} {e z : Nat} {v : Value} {l : List (List Dat)} (h : Row w S e z v l) (hf : Fr (fun _ => False) w w') : Row w' S e z v l := h.mono fun i hi hl => ⟨hi, hf.block i hl id⟩
theorem Row.alloc {w : World} {S : Nat → Prop} {e z : Nat} {v : Value} {l : List (List Dat)} (h : Row w S e z v l) (o : Obj) : Row (w.alloc o) S e z v l := h.on ((Fr.refl _ _).alloc o)
theorem Holds.fr {w w' : World} {b g : Nat} {v : Value} {d : Dat} (h : Holds w (fun i => b ≤ i) d v) (hf : Fr (fun i => i = g) w w') (hg : g < b) : Holds w' (fun i => b ≤ i) d v :=
  h.mono fun i hi hl => ⟨hi, hf.block i hl (by show ¬ i = g; have : b ≤ i := hi; omega)⟩
theorem Holds.on {w w' : World} {S : Nat → Prop} {v : Value} {d : Dat} (h : Holds w S d v) (hf : Fr (fun _ => False) w w') : Holds w' S d v := h.mono fun i hi hl => ⟨hi, hf.block i hl id⟩
theorem Holds.low {w : World} {b b' : Nat} {v : Value} {d : Dat} (h : Holds w (fun i => b ≤ i) d v) (hb : b' ≤ b) : Holds w (fun i => b' ≤ i) d v := h.mono fun i hi hl => ⟨Nat.le_trans hb hi, rfl⟩
theorem HoldsL.low {w : World} {b b' : Nat} {v : List Value} {d : List Dat} (h : HoldsL w (fun i => b ≤ i) d v) (hb : b' ≤ b) : HoldsL w (fun i => b' ≤ i) d v := h.mono fun i hi hl => ⟨Nat.le_trans hb hi, rfl⟩
theorem HoldsL.on {w w' : World} {S : Nat → Prop} {v : List Value} {d : List Dat} (h : HoldsL w S d v) (hf : Fr (fun _ => False) w w') : HoldsL w' S d v := h.mono fun i hi hl => ⟨hi, hf.block i hl id⟩
theorem Row.own_lt {w : World} {S : Nat → Prop} {e z : Nat} {v : Value} {l : List (List Dat)} (h : Row w S e z v l) {i : Nat} (hi : v.ownBlock = some i) : i < w.heap.size := by
  obtain ⟨xs, h1, _⟩ := h
  exact (own_block_some h1 hi).2
end Go.Proofs.YthndlfdbmljkhaaGreatDoor
namespace Go.Proofs.YthndlfdbmljkhaaGreatDoor
open Go.ChangeShapes Go.WideShapes Go.ChangeAt Go.RowKit Go.Maps
set_option linter.unusedVariables false
set_option linter.unusedSimpArgs false
end Go.Proofs.YthndlfdbmljkhaaGreatDoor
namespace Go.Proofs.YthndlfdbmljkhaaGreatDoor
open Go.ChangeShapes Go.WideShapes Go.ChangeAt Go.RowKit Go.Maps
set_option linter.unusedVariables false
set_option linter.unusedSimpArgs false
theorem mkf (fn : Fn) (first cap : Array Value) (w : World) : (Instr.makeFunc fn first cap).run Tryz.prog w = .ok (.func fn first cap) w := rfl
end Go.Proofs.YthndlfdbmljkhaaGreatDoor
namespace Go.Proofs.YthndlfdbmljkhaaGreatDoor
open Go.ChangeShapes Go.WideShapes Go.ChangeAt Go.RowKit Go.Maps
set_option linter.unusedVariables false
set_option linter.unusedSimpArgs false
abbrev ptC (a b : ByteArray) (k : Int) (v : Value) (l r : Opd) (w n : Int) : List Value := [.string a, .string b, .int .i64 k, v, .int .i64 l.k, .int .i64 l.vk, .int .i64 l.vi, .string l.vt, .string l.va, .string l.fd, .int .i64 r.k, .int .i64 r.vk, .int .i64 r.vi, .string r.vt, .string r.va, .string r.fd, .int .i64 w, .int .i64 n]
abbrev ptV (a b : ByteArray) (k : Int) (v : Value) (l r : Opd) (w n : Int) : Value := .agg #[.string a, .string b, .int .i64 k, v, .int .i64 l.k, .int .i64 l.vk, .int .i64 l.vi, .string l.vt, .string l.va, .string l.fd, .int .i64 r.k, .int .i64 r.vk, .int .i64 r.vi, .string r.vt, .string r.va, .string r.fd, .int .i64 w, .int .i64 n]
def pt0 : List Value := ptC (txt []) (txt []) 0 (.slice none 0 0) opd0 opd0 0 0
theorem wp_bd {P : Program} {ops : Array Oper} {rest : List Oper} {op : Oper} {a : Act} {w : World} {Q : Exit → Act → World → Prop} (hgd : op.guard = none) (ty : TypeId) (parts : Array (Nat × Operand)) (ho : op.op = .build ty parts) (v : Value)
    (vals : Array (Nat × Value)) (hp : (parts.map fun x => (x.1, a.eval x.2)) = vals) (hv : (Instr.build ty vals).run P w = .ok v w) (h : wpList P ops Q rest (a.put op.dst v) w) : wpList P ops Q (op :: rest) a w := by
  refine wpList_plain hgd fun K hK => ?_
  unfold Oper.wp execOp
  simp only [ho, Sem.run_bind, hp, hv, Result.andThen_ok, Sem.run_pure]
  exact hK _ _ h
theorem build_pt (x : ByteArray) (w : World) : (Instr.build 65 #[(0, .string x)]).run Tryz.prog w = .ok (ptV x (txt []) 0 (.slice none 0 0) opd0 opd0 0 0) w := by kernel_rfl
theorem pat_g (L : List Tk) (s : St) (h0 : s.o = 0) : s.i ≤ (pat L s).2.i ∧ (pat L s).2.o = s.o := by
  have a := nam_g L s
  have b := wnt_i L [58] (nam L s).2
  have c := nam_g L (wnt L [58] (nam L s).2)
  unfold pat
  simp only
  split
  · have d : (nam L (wnt L [58] (nam L s).2)).2.adv.i ≤ (orr L (ntt L 7) (nam L (wnt L [58] (nam L s).2)).2.adv).2.i ∧ (orr L (ntt L 7) (nam L (wnt L [58] (nam L s).2)).2.adv).2.o = (nam L (wnt L [58] (nam L s).2)).2.adv.o := jnd_g L 2 [111, 114] (jnd_g L 1 [97, 110, 100] (ntt_g L 7 0 rfl)) _ (by show (nam L (wnt L [58] (nam L s).2)).2.o = 0; omega)
    have e := wnt_i L [93] (orr L (ntt L 7) (nam L (wnt L [58] (nam L s).2)).2.adv).2
    have f1 : (nam L (wnt L [58] (nam L s).2)).2.adv.i = (nam L (wnt L [58] (nam L s).2)).2.i + 1 := rfl
    have f2 : (nam L (wnt L [58] (nam L s).2)).2.adv.o = (nam L (wnt L [58] (nam L s).2)).2.o := rfl
    simp only
    omega
  · simp only
    omega
end Go.Proofs.YthndlfdbmljkhaaGreatDoor
