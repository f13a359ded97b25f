/-
  A reader does not go back, and closes what it opens; rows of data that a reader appends to. What types of the program hold; a condition's cells.
-/
import Derived.Test.YtnlmkdncifijlaaDoorF2
import Derived.Test.YtnlmkdncifijlaaDoorO
namespace Go.Proofs.YtnlmkdncifijlaaDoor
open Go.ChangeShapes Go.WideShapes Go.ChangeAt Go.RowKit Go.Maps
set_option linter.unusedVariables false
set_option linter.unusedSimpArgs false
def Good {α : Type} (p : St → α × St) : Prop := ∀ s, s.i ≤ (p s).2.i ∧ (p s).2.o = s.o
theorem fal_i (L : List Tk) (s : St) : (fal L s).i = s.i ∧ (fal L s).o = s.o := by unfold fal; split <;> exact ⟨rfl, rfl⟩
theorem wnt_i (L : List Tk) (x : List UInt8) (s : St) : s.i ≤ (wnt L x s).i ∧ (wnt L x s).o = s.o := by
  unfold wnt
  split
  · exact ⟨Nat.le_succ _, rfl⟩
  · have := fal_i L s; omega
theorem num_g (L : List Tk) : Good (num L) := fun s => by
  unfold num
  split
  · exact ⟨Nat.le_succ _, rfl⟩
  · have := fal_i L s; simp; omega
theorem nam_g (L : List Tk) : Good (nam L) := fun s => by
  unfold nam
  split
  · exact ⟨Nat.le_succ _, rfl⟩
  · have := fal_i L s; simp; omega
theorem rel_g (L : List Tk) : Good (rel L) := fun s => by
  unfold rel
  split
  · exact ⟨Nat.le_succ _, rfl⟩
  · have := fal_i L s; simp; omega
theorem sde_g (L : List Tk) : Good (sde L) := fun s => by
  have a := nam_g L s
  have b := nam_g L (nam L s).2.adv
  have c := num_g L s.adv
  have e1 : s.adv.i = s.i + 1 := rfl
  have e2 : s.adv.o = s.o := rfl
  have e3 : (nam L s).2.adv.i = (nam L s).2.i + 1 := rfl
  have e4 : (nam L s).2.adv.o = (nam L s).2.o := rfl
  unfold sde
  split
  · exact ⟨Nat.le_succ _, rfl⟩
  · split
    · exact ⟨Nat.le_succ _, rfl⟩
    · split
      · simp only; omega
      · split <;> (simp only; omega)
theorem cmf_g (L : List Tk) (l : Opd) (s : St) : ∀ m, s.i ≤ (cmf L l s m).2.i ∧ (cmf L l s m).2.o = s.o
  | [] => by have := fal_i L s; simp [cmf]; omega
  | c :: r => by
    have a := sde_g L s.adv
    have e1 : s.adv.i = s.i + 1 := rfl
    have e2 : s.adv.o = s.o := rfl
    have ih := cmf_g L l s r
    unfold cmf
    split
    · split <;> (simp only; omega)
    · exact ih
theorem cmp_g (L : List Tk) : Good (cmp L) := fun s => by
  have a := sde_g L s
  have b := cmf_g L (sde L s).1 (sde L s).2 cml
  unfold cmp
  omega
/-- The same, of states in which so much is open. -/
def GoodA {α : Type} (o : Nat) (p : St → α × St) : Prop := ∀ s, s.o = o → s.i ≤ (p s).2.i ∧ (p s).2.o = s.o
theorem Good.at {α : Type} {p : St → α × St} (h : Good p) (o : Nat) : GoodA o p := fun s _ => h s
theorem sep_g {α : Type} (L : List Tk) (w : List UInt8) {p : St → α × St} {o : Nat} (hp : GoodA o p) : ∀ n s l, s.o = o → s.i ≤ (sep L w p n s l).2.i ∧ (sep L w p n s l).2.o = s.o
  | 0, s, l, _ => by simp [sep]
  | n + 1, s, l, ho => by
    have a := hp s.adv ho
    have e1 : s.adv.i = s.i + 1 := rfl
    have e2 : s.adv.o = s.o := rfl
    have ih := sep_g L w hp n (p s.adv).2 (l ++ [(p s.adv).1]) (by omega)
    unfold sep
    split
    · omega
    · simp
theorem jnd_g (L : List Tk) (k : Int) (w : List UInt8) {p : St → Cn × St} {o : Nat} (hp : GoodA o p) : GoodA o (jnd L k w p) := fun s ho => by
  have a := hp s ho
  have b := sep_g L w hp L.length (p s).2 [(p s).1] (by omega)
  unfold jnd
  simp only
  omega
theorem opn_f {L : List Tk} {w : List UInt8} {s : St} (h : (opn L w s).1 = false) : (opn L w s).2.i = s.i ∧ (opn L w s).2.o = s.o := by
  unfold opn at h ⊢
  split
  · split
    · exact ⟨rfl, rfl⟩
    · rename_i h1 h2
      rw [if_pos h1, if_neg h2] at h
      cases h
  · exact ⟨rfl, rfl⟩
theorem opn_t {L : List Tk} {w : List UInt8} {s : St} (h : (opn L w s).1 = true) : (opn L w s).2 = ⟨s.i + 1, s.o + 1, s.e⟩ := by
  unfold opn at h ⊢
  split
  · split
    · rename_i h1 h2
      rw [if_pos h1, if_pos h2] at h
      cases h
    · rfl
  · rename_i h1
    rw [if_neg h1] at h
    cases h
theorem ntt_g (L : List Tk) : ∀ n o, o + n = 7 → GoodA o (ntt L n)
  | 0, o, h7 => fun s ho => by
    have full : ∀ (w : List UInt8) (s : St), s.o = 7 → (opn L w s).1 = false := fun w s h => by
      unfold opn
      split
      · simp [h]
      · rfl
    unfold ntt
    have c := cmp_g L (opn L [40] (opn L [110, 111, 116] s).2).2
    have a := opn_f (full [110, 111, 116] s (by omega))
    have b := opn_f (full [40] (opn L [110, 111, 116] s).2 (by omega))
    omega
  | n + 1, o, h7 => fun s ho => by
    have ih := ntt_g L n (o + 1) (by omega)
    unfold ntt
    split
    · rename_i h1
      have e := opn_t h1
      have a := ih (opn L [110, 111, 116] s).2 (by rw [e, ← ho])
      have e1 : (opn L [110, 111, 116] s).2.i = s.i + 1 := by rw [e]
      have e2 : (opn L [110, 111, 116] s).2.o = s.o + 1 := by rw [e]
      show s.i ≤ (ntt L n (opn L [110, 111, 116] s).2).2.i ∧ (ntt L n (opn L [110, 111, 116] s).2).2.o - 1 = s.o
      omega
    · rename_i h1
      have b := opn_f (by simpa using h1)
      split
      · rename_i h2
        have e := opn_t h2
        have a := jnd_g L 2 [111, 114] (jnd_g L 1 [97, 110, 100] ih) (opn L [40] (opn L [110, 111, 116] s).2).2 (by rw [e]; show _ + 1 = _; omega)
        have e1 : (opn L [40] (opn L [110, 111, 116] s).2).2.i = (opn L [110, 111, 116] s).2.i + 1 := by rw [e]
        have e2 : (opn L [40] (opn L [110, 111, 116] s).2).2.o = (opn L [110, 111, 116] s).2.o + 1 := by rw [e]
        have c := wnt_i L [41] (orr L (ntt L n) (opn L [40] (opn L [110, 111, 116] s).2).2).2
        have d : s.i ≤ (orr L (ntt L n) (opn L [40] (opn L [110, 111, 116] s).2).2).2.i ∧ (orr L (ntt L n) (opn L [40] (opn L [110, 111, 116] s).2).2).2.o = s.o + 1 := by
          unfold orr
          omega
        show s.i ≤ (wnt L [41] (orr L (ntt L n) (opn L [40] (opn L [110, 111, 116] s).2).2).2).i ∧ (wnt L [41] (orr L (ntt L n) (opn L [40] (opn L [110, 111, 116] s).2).2).2).o - 1 = s.o
        omega
      · rename_i h2
        have d := opn_f (by simpa using h2 : (opn L [40] (opn L [110, 111, 116] s).2).1 = false)
        have c := cmp_g L (opn L [40] (opn L [110, 111, 116] s).2).2
        omega
theorem sep_stop {α : Type} {L : List Tk} {w : List UInt8} {p : St → α × St} {s : St} (h : see L w s = false) : ∀ n l, sep L w p n s l = (l, s)
  | 0, l => rfl
  | n + 1, l => by unfold sep; rw [if_neg (by rw [h]; decide)]
theorem sep_step {α : Type} {L : List Tk} {w : List UInt8} {p : St → α × St} {s : St} (h : see L w s = true) (n : Nat) (l : List α) : sep L w p (n + 1) s l = sep L w p n (p s.adv).2 (l ++ [(p s.adv).1]) := by
  rw [sep, if_pos h]
/-- A row that the call goes on with stays behind a step that turns other blocks. -/
theorem Loc.grown {w0 w w' : World} {g R : Nat} {V : Value} {L : List Tk} {s : St} {cs : List Value} {T : TypeId} {row : Option Nat} (h : Loc w0 g V L w s R cs T) (hg : w.grownBy w' row) (hr : ∀ k, row = some k → R < k) : Loc w0 g V L w' s R cs T := by
  have hlo := h.lo
  have hhi := h.hi
  have hb : ∀ k, k ≤ R → k < w.heap.size → w'.heap[k]? = w.heap[k]? := fun k hk hl => hg.block k hl (fun e => by have := hr k e.symm; omega)
  have hgl := blk_lt h.env.blk
  exact ⟨h.env.on hg.size (fun k hk => hb k (by omega) (by omega)) ((hb g (by omega) hgl).trans h.env.blk) h.env.pos h.env.opn, h.fr.grown hg (fun k hk => .inr (by have := hr k hk; omega)), hlo, hhi, (hb R (Nat.le_refl _) (blk_lt h.blk)).trans h.blk⟩
/-- An append of one element to a row of the call's own. -/
theorem wp_app {P : Program} {ops : Array Oper} {rest : List Oper} {o : Oper} {a : Act} {w : World} {Q : Exit → Act → World → Prop} (hgd : o.guard = none) (s x : Operand) (t : TypeId)
    (ho : o.op = .call { callee := .builtin .append, args := #[s, x], argTypes := #[t, t] }) (e : TypeId) (i : TypeInfo) (zv : Value) (z bytes : Nat) (ht : P.underlying t = some (.slice e)) (hi : P.info? e = some i) (hz : i.zero = some zv)
    (hsize : i.size = z) (hby : i.bytes = bytes) (hzs : zv.cells.size = z) (hsz : 0 < z) (b : Nat) (v : Value) (l : List (List Dat)) (hs : a.eval s = v) (hrow : Row w (fun i => b ≤ i) e z v l) (hb : b ≤ w.heap.size) (d : List Dat) (us : List Value) (ad : Addr)
    (hx : a.eval x = .slice (some ad) 1 1) (hl : us.length = 1 * z) (hnews : ∀ j u, us[j]? = some u → w.cell? (ad.add j) = some u) (h1 : us.all (·.oneCell') = true) (hd : HoldsL w (fun i => b ≤ i ∧ v.ownBlock ≠ some i) d us) (h700 : l.length ≤ 800) (hbb : bytes ≤ 100000)
    (h : ∀ v' w', Row w' (fun i => b ≤ i) e z v' (l ++ [d]) → w.grownBy w' v.ownBlock → (∀ k, v.ownBlock = some k → b ≤ k) → wpList P ops Q rest (a.put o.dst v') w') : wpList P ops Q (o :: rest) a w := by
  obtain ⟨xs, r1, r2, r3⟩ := hrow
  refine wpList_append_own_at _ hgd s x t ho 0 e i zv z bytes ht hi hz hsize hby hzs hsz v l.length xs hs r1 ad 1 1 us hx hl hnews (List.all_eq_true.1 h1) (by unfold maxLen; omega) ?_ (Nat.zero_le _) ?_
  · have : (l.length + 1) * bytes ≤ 801 * 100000 := Nat.mul_le_mul (by omega) hbb
    omega
  · intro v' w' q1 q2 q3 q4
    refine h v' w' ?_ q2 r2
    refine (Row.append r3 hd (by simpa using q1) q2 q4 r2).mono fun i hi _ => ⟨?_, rfl⟩
    rcases hi with c | c
    · exact c
    · show b ≤ i; omega
end Go.Proofs.YtnlmkdncifijlaaDoor
namespace Go.Proofs.YtnlmkdncifijlaaDoor
open Go.ChangeShapes Go.WideShapes Go.ChangeAt Go.RowKit Go.Maps
set_option linter.unusedVariables false
set_option linter.unusedSimpArgs false
abbrev zO : Value := .agg #[.int .i64 0, .int .i64 0, .int .i64 0, .string ByteArray.empty, .string ByteArray.empty, .string ByteArray.empty]
abbrev zC : Value := .agg #[.int .i64 0, .slice none 0 0, .int .i64 0, .int .i64 0, .int .i64 0, .string ByteArray.empty, .string ByteArray.empty, .string ByteArray.empty, .int .i64 0, .int .i64 0, .int .i64 0, .string ByteArray.empty, .string ByteArray.empty, .string ByteArray.empty]
theorem infoO : (Tryd.prog.info? 50).map (fun i => (i.zero, i.size, i.bytes)) = some (some zO, 6, 72) := by kernel_rfl
theorem infoC : (Tryd.prog.info? 52).map (fun i => (i.zero, i.size, i.bytes)) = some (some zC, 14, 176) := by kernel_rfl
theorem infoF : (Tryd.prog.info? 80).map (fun i => (i.zero, i.size, i.bytes)) = some (some (.agg #[.string ByteArray.empty, .int .i64 0]), 2, 24) := by kernel_rfl
theorem infoQ : (Tryd.prog.info? 59).map (fun i => (i.zero, i.size, i.bytes)) = some (some (.agg #[.int .i64 0, .int .i64 0, .int .i64 0]), 3, 24) := by kernel_rfl
theorem infoK : (Tryd.prog.info? 62).map (fun i => (i.zero, i.size, i.bytes)) = some (some (.agg #[.string ByteArray.empty, .slice none 0 0, .string ByteArray.empty]), 3, 56) := by kernel_rfl
theorem infoY : (Tryd.prog.info? 76).map (fun i => (i.zero, i.size, i.bytes)) = some (some (.agg #[.string ByteArray.empty, .slice none 0 0]), 2, 40) := by kernel_rfl
theorem infoR : (Tryd.prog.info? 44).map (fun i => (i.zero, i.size, i.bytes)) = some (some (.agg #[.string ByteArray.empty, .slice none 0 0, .slice none 0 0, .slice none 0 0, .slice none 0 0, .string ByteArray.empty, .slice none 0 0]), 7, 152) := by kernel_rfl
abbrev zP : Value := .agg #[.string ByteArray.empty, .string ByteArray.empty, .int .i64 0, .slice none 0 0, .int .i64 0, .int .i64 0, .int .i64 0, .string ByteArray.empty, .string ByteArray.empty, .string ByteArray.empty, .int .i64 0, .int .i64 0, .int .i64 0, .string ByteArray.empty, .string ByteArray.empty, .string ByteArray.empty, .int .i64 0, .int .i64 0]
theorem infoP : (Tryd.prog.info? 54).map (fun i => (i.zero, i.size, i.bytes)) = some (some zP, 18, 224) := by kernel_rfl
abbrev zM : Value := .agg #[.int .i64 0, .string ByteArray.empty, .string ByteArray.empty, .string ByteArray.empty, .int .i64 0, .slice none 0 0, .int .i64 0, .int .i64 0, .int .i64 0, .string ByteArray.empty, .string ByteArray.empty, .string ByteArray.empty, .int .i64 0, .int .i64 0, .int .i64 0, .string ByteArray.empty, .string ByteArray.empty, .string ByteArray.empty, .int .i64 0, .int .i64 0]
theorem infoM : (Tryd.prog.info? 107).map (fun i => (i.zero, i.size, i.bytes)) = some (some zM, 20, 248) := by kernel_rfl
theorem lit_out {w : World} {S : Nat → Prop} {v u : Value} (h : Holds w S (.lit v) u) : u = v := by cases h; rfl
theorem HoldsL.one {w : World} {S : Nat → Prop} {d : Dat} {ds : List Dat} {vs : List Value} (h : HoldsL w S (d :: ds) vs) : ∃ v r, vs = v :: r ∧ Holds w S d v ∧ HoldsL w S ds r := by
  cases vs with
  | nil => simp [HoldsL] at h
  | cons v r => exact ⟨v, r, rfl, h.head⟩
theorem HoldsL.none {w : World} {S : Nat → Prop} {vs : List Value} (h : HoldsL w S [] vs) : vs = [] := List.eq_nil_of_length_eq_zero h.1.symm
theorem row_shape {w : World} {S : Nat → Prop} {e z : Nat} {l : List (List Dat)} {v : Value} (h : Holds w S (.row e z l) v) : ∃ p cap, v = .slice p l.length cap := by
  cases h with
  | row _ _ _ _ xs h1 h2 h3 h4 =>
    rcases h1.2 with ⟨h2, h3⟩ | ⟨g, cap, cur, h2, _⟩
    · exact ⟨Option.none, 0, by rw [h2, h3]⟩
    · exact ⟨_, cap, h2⟩
theorem encO_cells {w : World} {S : Nat → Prop} {o : Opd} {vs : List Value} (h : HoldsL w S (encO o) vs) : vs = opC o := by
  obtain ⟨v0, r0, rfl, h0, h⟩ := h.one
  obtain ⟨v1, r1, rfl, h1, h⟩ := h.one
  obtain ⟨v2, r2, rfl, h2, h⟩ := h.one
  obtain ⟨v3, r3, rfl, h3, h⟩ := h.one
  obtain ⟨v4, r4, rfl, h4, h⟩ := h.one
  obtain ⟨v5, r5, rfl, h5, h⟩ := h.one
  rw [lit_out h0, lit_out h1, lit_out h2, lit_out h3, lit_out h4, lit_out h5, h.none]
theorem holdsO (w : World) (S : Nat → Prop) (o : Opd) : HoldsL w S (encO o) (opC o) :=
  .cons (.lit _) (.cons (.lit _) (.cons (.lit _) (.cons (.lit _) (.cons (.lit _) (.cons (.lit _) (.nil _ _))))))
theorem HoldsL.split {w : World} {S : Nat → Prop} : ∀ {ds es : List Dat} {vs : List Value}, HoldsL w S (ds ++ es) vs → ∃ us rs, vs = us ++ rs ∧ HoldsL w S ds us ∧ HoldsL w S es rs
  | [], es, vs, h => ⟨[], vs, rfl, .nil _ _, h⟩
  | d :: ds, es, vs, h => by
    obtain ⟨v, r, rfl, h1, h2⟩ := HoldsL.one h
    obtain ⟨us, rs, rfl, h3, h4⟩ := h2.split
    exact ⟨v :: us, rs, rfl, .cons h1 h3, h4⟩
theorem encC_cells {w : World} {S : Nat → Prop} {c : Cn} {vs : List Value} (h : HoldsL w S (encC c) vs) : ∃ p cap, vs = cnC c.k (.slice p c.sb.length cap) c.l c.r ∧ Holds w S (.row 52 14 c.sb) (.slice p c.sb.length cap) := by
  obtain ⟨v0, r0, rfl, h0, h⟩ := h.one
  obtain ⟨v1, r1, rfl, h1, h⟩ := h.one
  obtain ⟨us, rs, rfl, h2, h3⟩ := h.split
  rw [encO_cells h2, encO_cells h3, lit_out h0]
  obtain ⟨p, cap, rfl⟩ := row_shape h1
  exact ⟨p, cap, rfl, h1⟩
theorem holdsC {w : World} {S : Nat → Prop} {c : Cn} {v : Value} (h : Holds w S (.row 52 14 c.sb) v) : HoldsL w S (encC c) (cnC c.k v c.l c.r) :=
  .cons (.lit _) (.cons h ((holdsO w S c.l).append (holdsO w S c.r)))
/-- What a part of a condition leaves. -/
def CPost (w : World) (g : Nat) (V : Value) (L : List Tk) (c : Cn) (s : St) (e : Ending) (w' : World) : Prop :=
  ∃ p cap, e = .returned (cnV c.k (.slice p c.sb.length cap) c.l c.r) ∧ Holds w' (fun i => w.heap.size ≤ i) (.row 52 14 c.sb) (.slice p c.sb.length cap) ∧ Env w' g V L s ∧ Fr (fun i => i = g) w w'
theorem compared_c (w : World) (g : Nat) (V : Value) (L : List Tk) (s : St) (h : Env w g V L s) : Calls Tryd.prog 162 #[rp g] w (CPost w g V L (cmp L s).1 (cmp L s).2) := by
  refine (compared_any w g V L s h).mono ?_
  rintro e w' ⟨rfl, h1, h2, h3⟩
  refine ⟨none, 0, ?_, ?_, h2, h3⟩
  · rw [h1]; rfl
  · rw [h1]; exact (Row.nil w' _ _ _).holds
/-- The one element of a row of one. -/
theorem Row.only {w : World} {S : Nat → Prop} {e z : Nat} {v : Value} {d : List Dat} (h : Row w S e z v [d]) : ∃ gb cap xs, v = .slice (some ⟨gb, 0, none⟩) 1 cap ∧ w.rangeAt gb 0 xs ∧ HoldsL w S d xs := by
  obtain ⟨xs, h1, h2, h3⟩ := h
  have hc := h1
  rcases h1.2 with ⟨_, h4⟩ | ⟨gb, cap, cur, rfl, _⟩
  · simp at h4
  · refine ⟨gb, cap, xs, rfl, fun j u hu => ?_, ?_⟩
    · have := hc.cells (g := gb) rfl j u hu
      rw [Addr.add_mid] at this
      exact this
    · rw [show [d].flatten = d by simp] at h3
      exact h3.mono fun i hi _ => ⟨hi.1, rfl⟩
/-- A row of one element that was laid in a new block. -/
theorem Row.new {w : World} {b : Nat} {e z : Nat} {d : List Dat} {us : List Value} (hb : b ≤ w.heap.size) (hz : us.length = z) (hd : HoldsL w (fun i => b ≤ i) d us) : Row (w.alloc (.cells us.toArray e)) (fun i => b ≤ i) e z (.slice (some ⟨w.heap.size, 0, none⟩) 1 1) [d] := by
  refine ⟨us, ⟨by simpa using hz, .inr ⟨w.heap.size, 1, us.toArray, rfl, Nat.zero_le _, heap_alloc_new _ _, Nat.le_refl _, by decide, by simpa using hz, ?_⟩⟩, fun i hi => ?_, ?_⟩
  · rw [← hz]; simp
  · simp [Value.ownBlock] at hi
    show b ≤ i
    omega
  · rw [show [d].flatten = d by simp]
    refine hd.mono fun i hi hl => ⟨⟨hi, ?_⟩, Below.heap_alloc _ _ _ hl⟩
    simp [Value.ownBlock]
    omega
theorem Row.fr {w w' : World} {b g e z : Nat} {v : Value} {l : List (List Dat)} (h : Row w (fun i => b ≤ i) e z v l) (hf : Fr (fun i => i = g) w w') (hg : g < b) : Row w' (fun i => b ≤ i) e z v l :=
  h.mono fun i hi hl => ⟨hi, hf.block i hl (by show ¬ i = g; have : b ≤ i := hi; omega)⟩
theorem Row.on {w w' : World} {S : Nat → Prop} {e z : Nat} {v : Value} {l : List (List Dat)} (h : Row w S e z v l) (hf : Fr (fun _ => False) w w') : Row w' S e z v l := h.mono fun i hi hl => ⟨hi, hf.block i hl id⟩
theorem Row.alloc {w : World} {S : Nat → Prop} {e z : Nat} {v : Value} {l : List (List Dat)} (h : Row w S e z v l) (o : Obj) : Row (w.alloc o) S e z v l := h.on ((Fr.refl _ _).alloc o)
theorem Holds.fr {w w' : World} {b g : Nat} {v : Value} {d : Dat} (h : Holds w (fun i => b ≤ i) d v) (hf : Fr (fun i => i = g) w w') (hg : g < b) : Holds w' (fun i => b ≤ i) d v :=
  h.mono fun i hi hl => ⟨hi, hf.block i hl (by show ¬ i = g; have : b ≤ i := hi; omega)⟩
theorem Holds.on {w w' : World} {S : Nat → Prop} {v : Value} {d : Dat} (h : Holds w S d v) (hf : Fr (fun _ => False) w w') : Holds w' S d v := h.mono fun i hi hl => ⟨hi, hf.block i hl id⟩
theorem Holds.low {w : World} {b b' : Nat} {v : Value} {d : Dat} (h : Holds w (fun i => b ≤ i) d v) (hb : b' ≤ b) : Holds w (fun i => b' ≤ i) d v := h.mono fun i hi hl => ⟨Nat.le_trans hb hi, rfl⟩
theorem HoldsL.low {w : World} {b b' : Nat} {v : List Value} {d : List Dat} (h : HoldsL w (fun i => b ≤ i) d v) (hb : b' ≤ b) : HoldsL w (fun i => b' ≤ i) d v := h.mono fun i hi hl => ⟨Nat.le_trans hb hi, rfl⟩
theorem HoldsL.on {w w' : World} {S : Nat → Prop} {v : List Value} {d : List Dat} (h : HoldsL w S d v) (hf : Fr (fun _ => False) w w') : HoldsL w' S d v := h.mono fun i hi hl => ⟨hi, hf.block i hl id⟩
theorem Row.own_lt {w : World} {S : Nat → Prop} {e z : Nat} {v : Value} {l : List (List Dat)} (h : Row w S e z v l) {i : Nat} (hi : v.ownBlock = some i) : i < w.heap.size := by
  obtain ⟨xs, h1, _⟩ := h
  exact (own_block_some h1 hi).2
end Go.Proofs.YtnlmkdncifijlaaDoor
