/-
  A clause of a rule. A clause of a rule: one of its ways. A clause of a rule: one of its ways. A clause of a rule: one of its ways. A clause of a rule: one of its ways. A clause of a rule: one of its ways. A clause of a rule: one of its ways.
-/
import Derived.Test.YtnlmkdncifijlaaDoorY
import Derived.Test.YtnlmkdncifijlaaDoorKk
import Derived.Test.YtnlmkdncifijlaaDoorQ1
namespace Go.Proofs.YtnlmkdncifijlaaDoor
open Go.ChangeShapes Go.WideShapes Go.ChangeAt Go.RowKit Go.Maps
set_option linter.unusedVariables false
set_option linter.unusedSimpArgs false
set_option maxRecDepth 20000
/-- A rule that is being read, in block U; its rows lie behind it, each in blocks of its own colour. -/
structure Rul (w : World) (U : Nat) (col : Nat → Nat) (r : Rl) (wv tv mv kv ev : Value) : Prop where
  blk : w.heap[U]? = some (.cells #[.string r.n, wv, tv, mv, kv, .string r.e.ty, ev] 44 (0, 0))
  r1 : Row w (Sc U col 1) 54 18 wv (r.w.map encP)
  r2 : Row w (Sc U col 2) 54 18 tv (r.t.map encP)
  r3 : Row w (Sc U col 3) 107 20 mv (r.m.map encM)
  r4 : Row w (Sc U col 4) 62 3 kv (r.k.map encK)
  r5 : Holds w (Sc U col 5) (.row 50 6 (r.e.v.map encO)) ev
section
variable {w w' : World} {U g : Nat} {col : Nat → Nat} {r : Rl} {wv tv mv kv ev : Value}
theorem Rul.on (h : Rul w U col r wv tv mv kv ev) (hu : w'.heap[U]? = w.heap[U]?) (hb : ∀ i, U < i → i < w.heap.size → w'.heap[i]? = w.heap[i]?) : Rul w' U col r wv tv mv kv ev :=
  ⟨hu.trans h.blk, h.r1.mono fun i hi hl => ⟨hi, hb i hi.1 hl⟩, h.r2.mono fun i hi hl => ⟨hi, hb i hi.1 hl⟩, h.r3.mono fun i hi hl => ⟨hi, hb i hi.1 hl⟩, h.r4.mono fun i hi hl => ⟨hi, hb i hi.1 hl⟩, h.r5.mono fun i hi hl => ⟨hi, hb i hi.1 hl⟩⟩
theorem Rul.fr (h : Rul w U col r wv tv mv kv ev) (hf : Fr (fun i => i = g) w w') (hg : g < U) : Rul w' U col r wv tv mv kv ev :=
  h.on (hf.block U (blk_lt h.blk) (by show ¬ U = g; omega)) fun i hi hl => hf.block i hl (by show ¬ i = g; omega)
theorem Rul.new (h : Rul w U col r wv tv mv kv ev) (hf : Fr (fun _ => False) w w') : Rul w' U col r wv tv mv kv ev :=
  h.on (hf.block U (blk_lt h.blk) id) fun i _ hl => hf.block i hl id
theorem Rul.paint (h : Rul w U col r wv tv mv kv ev) (j : Nat) : Rul w U (paint col w.heap.size j) r wv tv mv kv ev := by
  have key : ∀ {k i : Nat}, Sc U col k i → i < w.heap.size → Sc U (Go.Proofs.YtnlmkdncifijlaaDoor.paint col w.heap.size j) k i := fun hi hl => ⟨hi.1, (paint_lt hl).trans hi.2⟩
  exact ⟨h.blk, h.r1.mono fun i hi hl => ⟨key hi hl, rfl⟩, h.r2.mono fun i hi hl => ⟨key hi hl, rfl⟩, h.r3.mono fun i hi hl => ⟨key hi hl, rfl⟩, h.r4.mono fun i hi hl => ⟨key hi hl, rfl⟩, h.r5.mono fun i hi hl => ⟨key hi hl, rfl⟩⟩
end
theorem Row.apart {w w' : World} {S : Nat → Prop} {e z : Nat} {v : Value} {l : List (List Dat)} {row : Option Nat} (h : Row w S e z v l) (hg : w.grownBy w' row) (hr : ∀ k, row = some k → ¬ S k) : Row w' S e z v l := h.mono fun i hi hl => ⟨hi, hg.block i hl fun e => hr i e.symm hi⟩
theorem Holds.apart {w w' : World} {S : Nat → Prop} {d : Dat} {v : Value} {row : Option Nat} (h : Holds w S d v) (hg : w.grownBy w' row) (hr : ∀ k, row = some k → ¬ S k) : Holds w' S d v := h.mono fun i hi hl => ⟨hi, hg.block i hl fun e => hr i e.symm hi⟩
theorem Row.cell {w : World} {U j : Nat} {S : Nat → Prop} {e z : Nat} {v u : Value} {l : List (List Dat)} (h : Row w S e z v l) (hS : ∀ i, S i → U < i) : Row (w.setCell ⟨U, j, none⟩ u) S e z v l := h.mono fun i hi hl => ⟨hi, Below.heap_setCell _ _ _ _ (by have := hS i hi; show i ≠ U; omega)⟩
theorem Holds.cell {w : World} {U j : Nat} {S : Nat → Prop} {d : Dat} {v u : Value} (h : Holds w S d v) (hS : ∀ i, S i → U < i) : Holds (w.setCell ⟨U, j, none⟩ u) S d v := h.mono fun i hi hl => ⟨hi, Below.heap_setCell _ _ _ _ (by have := hS i hi; show i ≠ U; omega)⟩
theorem sc_up {U : Nat} {col : Nat → Nat} {j : Nat} : ∀ i, Sc U col j i → U < i := fun i h => h.1
theorem holdsP {w : World} {S : Nat → Prop} {t : Pt} {v : Value} (h : Holds w S (.row 52 14 t.c.sb) v) : HoldsL w S (encP t) (ptC t.va t.ty t.c.k v t.c.l t.c.r t.w t.n) :=
  .cons (.lit _) (.cons (.lit _) ((holdsC h).append (.cons (.lit _) (.cons (.lit _) (.nil _ _)))))
theorem holdsM {w : World} {S : Nat → Prop} {m : Mn} {v : Value} (h : Holds w S (.row 52 14 m.p.c.sb) v) : HoldsL w S (encM m) (mnC m.c m.f m.p.va m.p.ty m.p.c.k v m.p.c.l m.p.c.r m.p.w m.p.n) :=
  .cons (.lit _) (.cons (.lit _) (holdsP h))
theorem holdsK {w : World} {S : Nat → Prop} {k : Lk} {v : Value} (h : Holds w S (.row 59 3 (k.o.map encQ)) v) : HoldsL w S (encK k) (lkC k.l v k.r) :=
  .cons (.lit _) (.cons h (.cons (.lit _) (.nil _ _)))
theorem bs_pt (a b : ByteArray) (k : Int) (v : Value) (l r : Opd) (x n : Int) (w : World) : (Instr.buildSlice 37 1 #[(0, ptV a b k v l r x n)]).run Tryd.prog w = .ok (.slice (some ⟨w.heap.size, 0, none⟩) 1 1) (w.alloc (.cells (ptC a b k v l r x n).toArray 54)) := by kernel_rfl
theorem bs_mn (c : Int) (f a b : ByteArray) (k : Int) (v : Value) (l r : Opd) (x n : Int) (w : World) : (Instr.buildSlice 38 1 #[(0, mnV c f a b k v l r x n)]).run Tryd.prog w = .ok (.slice (some ⟨w.heap.size, 0, none⟩) 1 1) (w.alloc (.cells (mnC c f a b k v l r x n).toArray 107)) := by kernel_rfl
theorem bs_lk (a : ByteArray) (v : Value) (b : ByteArray) (w : World) : (Instr.buildSlice 39 1 #[(0, .agg #[.string a, v, .string b])]).run Tryd.prog w = .ok (.slice (some ⟨w.heap.size, 0, none⟩) 1 1) (w.alloc (.cells (lkC a v b).toArray 62)) := by kernel_rfl
theorem ent_when : ∀ args w, (callFunc 119 args).run Tryd.prog w = .ok (.enter 119 args) w := enters_of Tryd.func119 (by kernel_rfl) rfl
theorem ent_pattern : ∀ args w, (callFunc 120 args).run Tryd.prog w = .ok (.enter 120 args) w := enters_of Tryd.func120 (by kernel_rfl) rfl
theorem ent_many : ∀ args w, (callFunc 121 args).run Tryd.prog w = .ok (.enter 121 args) w := enters_of Tryd.func121 (by kernel_rfl) rfl
theorem ent_link : ∀ args w, (callFunc 123 args).run Tryd.prog w = .ok (.enter 123 args) w := enters_of Tryd.func123 (by kernel_rfl) rfl
/-- What stands while a clause is read. -/
def Cs (w0 w : World) (g : Nat) (V : Value) (L : List Tk) (s : St) (U : Nat) (col : Nat → Nat) (r : Rl) (wv tv mv kv ev : Value) : Prop := Env w g V L s ∧ Rul w U col r wv tv mv kv ev ∧ Fr (fun i => i = g ∨ U ≤ i) w0 w
theorem Cs.call {w0 w w' : World} {g : Nat} {V : Value} {L : List Tk} {s s' : St} {U : Nat} {col : Nat → Nat} {r : Rl} {wv tv mv kv ev : Value} (h : Cs w0 w g V L s U col r wv tv mv kv ev) (he : Env w' g V L s') (hf : Fr (fun i => i = g) w w') (hg : g < U) : Cs w0 w' g V L s' U col r wv tv mv kv ev :=
  ⟨he, h.2.1.fr hf hg, h.2.2.trans (hf.mono fun i hi _ => .inl hi)⟩
theorem Cs.drew {w0 w : World} {g : Nat} {V : Value} {L : List Tk} {s : St} {U : Nat} {col : Nat → Nat} {r : Rl} {wv tv mv kv ev : Value} (h : Cs w0 w g V L s U col r wv tv mv kv ev) : Cs w0 w.drew g V L s U col r wv tv mv kv ev :=
  ⟨h.1.fr ((Fr.refl _ _).drew), h.2.1.new ((Fr.refl _ _).drew), h.2.2.drew⟩
/-- What a clause leaves. -/
def CLPost (w : World) (g : Nat) (V : Value) (L : List Tk) (U : Nat) (r : Rl) (s : St) (e : Ending) (w' : World) : Prop :=
  e = .returned (.tuple #[]) ∧ ∃ col wv tv mv kv ev, Cs w w' g V L s U col r wv tv mv kv ev
theorem Cs.app1 {w0 w w5 : World} {g : Nat} {V : Value} {L : List Tk} {s : St} {U : Nat} {col : Nat → Nat} {r : Rl} {wv tv mv kv ev v' : Value} {x : Pt} (h : Cs w0 w g V L s U col r wv tv mv kv ev) (o : Obj) (hgb : (w.alloc o).grownBy w5 wv.ownBlock) (hown : ∀ k, wv.ownBlock = some k → Sc U col 1 k)
    (hrw : Row w5 (Sc U col 1) 54 18 v' (r.w.map encP ++ [encP x])) (hb : w5.heap[U]? = some (.cells #[.string r.n, wv, tv, mv, kv, .string r.e.ty, ev] 44 (0, 0))) (hg : g < U) : Cs w0 (w5.setCell ⟨U, 1, none⟩ v') g V L s U col { r with w := r.w ++ [x] } v' tv mv kv ev := by
  have hgw := blk_lt h.1.blk
  refine ⟨((h.1.alloc o).grown (b := U) hgb (fun k hk => Nat.le_of_lt (hown k hk).1) hg).setCell _ hg _, ⟨?_, by rw [List.map_append]; exact hrw.cell sc_up, ((h.2.1.r2.alloc o).apart hgb (fun k hk c => by have := (hown k hk).2; rw [c.2] at this; omega)).cell sc_up, ((h.2.1.r3.alloc o).apart hgb (fun k hk c => by have := (hown k hk).2; rw [c.2] at this; omega)).cell sc_up, ((h.2.1.r4.alloc o).apart hgb (fun k hk c => by have := (hown k hk).2; rw [c.2] at this; omega)).cell sc_up, ((h.2.1.r5.on ((Fr.refl _ _).alloc o)).apart hgb (fun k hk c => by have := (hown k hk).2; rw [c.2] at this; omega)).cell sc_up⟩, ?_⟩
  · rw [blk_set hb]; rfl
  · exact ((h.2.2.alloc o).grown hgb (fun k hk => .inl (.inr (Nat.le_of_lt (hown k hk).1)))).setCell (p := ⟨U, 1, none⟩) (.inl (.inr (Nat.le_refl _))) _
theorem Cs.app2 {w0 w w5 : World} {g : Nat} {V : Value} {L : List Tk} {s : St} {U : Nat} {col : Nat → Nat} {r : Rl} {wv tv mv kv ev v' : Value} {x : Pt} (h : Cs w0 w g V L s U col r wv tv mv kv ev) (o : Obj) (hgb : (w.alloc o).grownBy w5 tv.ownBlock) (hown : ∀ k, tv.ownBlock = some k → Sc U col 2 k)
    (hrw : Row w5 (Sc U col 2) 54 18 v' (r.t.map encP ++ [encP x])) (hb : w5.heap[U]? = some (.cells #[.string r.n, wv, tv, mv, kv, .string r.e.ty, ev] 44 (0, 0))) (hg : g < U) : Cs w0 (w5.setCell ⟨U, 2, none⟩ v') g V L s U col { r with t := r.t ++ [x] } wv v' mv kv ev := by
  have hgw := blk_lt h.1.blk
  refine ⟨((h.1.alloc o).grown (b := U) hgb (fun k hk => Nat.le_of_lt (hown k hk).1) hg).setCell _ hg _, ⟨?_, ((h.2.1.r1.alloc o).apart hgb (fun k hk c => by have := (hown k hk).2; rw [c.2] at this; omega)).cell sc_up, by rw [List.map_append]; exact hrw.cell sc_up, ((h.2.1.r3.alloc o).apart hgb (fun k hk c => by have := (hown k hk).2; rw [c.2] at this; omega)).cell sc_up, ((h.2.1.r4.alloc o).apart hgb (fun k hk c => by have := (hown k hk).2; rw [c.2] at this; omega)).cell sc_up, ((h.2.1.r5.on ((Fr.refl _ _).alloc o)).apart hgb (fun k hk c => by have := (hown k hk).2; rw [c.2] at this; omega)).cell sc_up⟩, ?_⟩
  · rw [blk_set hb]; rfl
  · exact ((h.2.2.alloc o).grown hgb (fun k hk => .inl (.inr (Nat.le_of_lt (hown k hk).1)))).setCell (p := ⟨U, 2, none⟩) (.inl (.inr (Nat.le_refl _))) _
theorem Cs.app3 {w0 w w5 : World} {g : Nat} {V : Value} {L : List Tk} {s : St} {U : Nat} {col : Nat → Nat} {r : Rl} {wv tv mv kv ev v' : Value} {x : Mn} (h : Cs w0 w g V L s U col r wv tv mv kv ev) (o : Obj) (hgb : (w.alloc o).grownBy w5 mv.ownBlock) (hown : ∀ k, mv.ownBlock = some k → Sc U col 3 k)
    (hrw : Row w5 (Sc U col 3) 107 20 v' (r.m.map encM ++ [encM x])) (hb : w5.heap[U]? = some (.cells #[.string r.n, wv, tv, mv, kv, .string r.e.ty, ev] 44 (0, 0))) (hg : g < U) : Cs w0 (w5.setCell ⟨U, 3, none⟩ v') g V L s U col { r with m := r.m ++ [x] } wv tv v' kv ev := by
  have hgw := blk_lt h.1.blk
  refine ⟨((h.1.alloc o).grown (b := U) hgb (fun k hk => Nat.le_of_lt (hown k hk).1) hg).setCell _ hg _, ⟨?_, ((h.2.1.r1.alloc o).apart hgb (fun k hk c => by have := (hown k hk).2; rw [c.2] at this; omega)).cell sc_up, ((h.2.1.r2.alloc o).apart hgb (fun k hk c => by have := (hown k hk).2; rw [c.2] at this; omega)).cell sc_up, by rw [List.map_append]; exact hrw.cell sc_up, ((h.2.1.r4.alloc o).apart hgb (fun k hk c => by have := (hown k hk).2; rw [c.2] at this; omega)).cell sc_up, ((h.2.1.r5.on ((Fr.refl _ _).alloc o)).apart hgb (fun k hk c => by have := (hown k hk).2; rw [c.2] at this; omega)).cell sc_up⟩, ?_⟩
  · rw [blk_set hb]; rfl
  · exact ((h.2.2.alloc o).grown hgb (fun k hk => .inl (.inr (Nat.le_of_lt (hown k hk).1)))).setCell (p := ⟨U, 3, none⟩) (.inl (.inr (Nat.le_refl _))) _
theorem Cs.app4 {w0 w w5 : World} {g : Nat} {V : Value} {L : List Tk} {s : St} {U : Nat} {col : Nat → Nat} {r : Rl} {wv tv mv kv ev v' : Value} {x : Lk} (h : Cs w0 w g V L s U col r wv tv mv kv ev) (o : Obj) (hgb : (w.alloc o).grownBy w5 kv.ownBlock) (hown : ∀ k, kv.ownBlock = some k → Sc U col 4 k)
    (hrw : Row w5 (Sc U col 4) 62 3 v' (r.k.map encK ++ [encK x])) (hb : w5.heap[U]? = some (.cells #[.string r.n, wv, tv, mv, kv, .string r.e.ty, ev] 44 (0, 0))) (hg : g < U) : Cs w0 (w5.setCell ⟨U, 4, none⟩ v') g V L s U col { r with k := r.k ++ [x] } wv tv mv v' ev := by
  have hgw := blk_lt h.1.blk
  refine ⟨((h.1.alloc o).grown (b := U) hgb (fun k hk => Nat.le_of_lt (hown k hk).1) hg).setCell _ hg _, ⟨?_, ((h.2.1.r1.alloc o).apart hgb (fun k hk c => by have := (hown k hk).2; rw [c.2] at this; omega)).cell sc_up, ((h.2.1.r2.alloc o).apart hgb (fun k hk c => by have := (hown k hk).2; rw [c.2] at this; omega)).cell sc_up, ((h.2.1.r3.alloc o).apart hgb (fun k hk c => by have := (hown k hk).2; rw [c.2] at this; omega)).cell sc_up, by rw [List.map_append]; exact hrw.cell sc_up, ((h.2.1.r5.on ((Fr.refl _ _).alloc o)).apart hgb (fun k hk c => by have := (hown k hk).2; rw [c.2] at this; omega)).cell sc_up⟩, ?_⟩
  · rw [blk_set hb]; rfl
  · exact ((h.2.2.alloc o).grown hgb (fun k hk => .inl (.inr (Nat.le_of_lt (hown k hk).1)))).setCell (p := ⟨U, 4, none⟩) (.inl (.inr (Nat.le_refl _))) _
end Go.Proofs.YtnlmkdncifijlaaDoor
namespace Go.Proofs.YtnlmkdncifijlaaDoor
open Go.ChangeShapes Go.WideShapes Go.ChangeAt Go.RowKit Go.Maps
set_option linter.unusedVariables false
set_option linter.unusedSimpArgs false
set_option maxRecDepth 20000
set_option maxHeartbeats 8000000 in
theorem clause_when (w : World) (g : Nat) (V : Value) (L : List Tk) (s : St) (U : Nat) (col : Nat → Nat) (r : Rl) (wv tv mv kv ev : Value) (h : Env w g V L s) (hr : Rul w U col r wv tv mv kv ev) (hg : g < U) (h0 : s.o = 0) (hlen : r.w.length ≤ 700 ∧ r.t.length ≤ 700 ∧ r.m.length ≤ 700 ∧ r.k.length ≤ 700) (hb_T1 : see L [119, 104, 101, 110] s = true) : Calls Tryd.prog 85 #[rp g, .pointer (some ⟨U, 0, none⟩)] w (CLPost w g V L U { r with w := r.w ++ [(whn L s.adv).1] } (whn L s.adv).2) := by
  have HG : Hid (g < U) := hg
  have HC0 : Hid (Cs w w g V L s U col r wv tv mv kv ev) := ⟨h, hr, Fr.refl _ _⟩
  have T1 : Hid (∀ W, Env W g V L s → Calls Tryd.prog 40 #[rp g, .string ⟨#[119, 104, 101, 110]⟩] W fun e w' => e = .returned (.bool true) ∧ Env w' g V L s.adv ∧ Fr (fun i => i = g) W w') := fun W hW => by
    have := takes_any W g V L s [119, 104, 101, 110] hW
    unfold tks at this
    rw [hb_T1] at this
    exact this
  obtain ⟨i0, a1, a2, a3, a4⟩ := info_parts infoP
  have HI : Hid (Tryd.prog.info? 54 = some i0 ∧ i0.zero = some zP ∧ i0.size = 18 ∧ i0.bytes = 224) := ⟨a1, a2, a3, a4⟩
  have HP : Hid (∀ W, Env W g V L s.adv → Calls Tryd.prog 119 #[rp g] W (PPost W g V L (whn L s.adv).1 (whn L s.adv).2)) := fun W hW => when_any W g V L s.adv hW h0
  obtain ⟨x, hx⟩ : ∃ x, (whn L s.adv).1 = x := ⟨_, rfl⟩
  obtain ⟨s2, hs2⟩ : ∃ s2, (whn L s.adv).2 = s2 := ⟨_, rfl⟩
  rw [hx, hs2] at HP ⊢
  obtain ⟨p, cap, rfl⟩ : ∃ p cap, wv = .slice p r.w.length cap := by
    obtain ⟨p, cap, e⟩ := hr.r1.shape
    rw [List.length_map] at e
    exact ⟨p, cap, e⟩
  obtain ⟨n, hn⟩ : ∃ n, r.w.length = n := ⟨_, rfl⟩
  have HNN : Hid (r.w.length = n) := hn
  have HLN : Hid ((r.w.map encP).length ≤ 800) := by show _ ≤ 800; rw [List.length_map]; omega
  obtain ⟨n', hn'⟩ : ∃ n', n + 1 = n' := ⟨_, rfl⟩
  have HNX : Hid ((r.w.map encP).length + 1 = n') := by show _ + 1 = n'; rw [List.length_map]; omega
  rw [hn] at HC0
  clear a1 a2 a3 a4 hx hs2 h hr hg h0 hlen hn hn' hb_T1
  go_enter Tryd.func85, Tryd.ntmps85
  go_wp2_with (first
      | (go_at_call_of 40 (Value.string ⟨#[119, 104, 101, 110]⟩); refine (T1.out _ HC0.out.1).mono ?_; rintro e wa ⟨rfl, he_, hf_⟩; have HCa : Hid (Cs w wa g V L s.adv U col r (.slice p n cap) tv mv kv ev) := HC0.out.call he_ hf_ HG.out; clear he_ hf_))
  obtain ⟨c2, hc2⟩ : ∃ c2, paint col wa.heap.size 1 = c2 := ⟨_, rfl⟩
  have HPG : Hid (∀ i, wa.heap.size ≤ i → c2 i = 1) := fun i hi => by rw [← hc2]; exact paint_ge hi
  have HCd : Hid (Cs w wa.drew g V L s.adv U c2 r (.slice p n cap) tv mv kv ev) := by
    have h1 : Cs w wa g V L s.adv U (paint col wa.heap.size 1) r (.slice p n cap) tv mv kv ev := ⟨HCa.out.1, HCa.out.2.1.paint 1, HCa.out.2.2⟩
    rw [hc2] at h1
    exact h1.drew
  have HUW : Hid (U < wa.heap.size) := blk_lt HCa.out.2.1.blk
  have ca : wa.cell? ⟨U, 1, none⟩ = some (.slice p n cap) := by rw [cell_of_blk HCa.out.2.1.blk]; rfl
  clear hc2
  go_region_law (first
    | (refine step_call 119 ent_when (by rfl) _ _ (by rfl) (rp g) (by rfl) _ (HP.out _ HCd.out.1) ?_; rintro e wq ⟨p5, cap5, rfl, hhq, heq, hfq⟩; refine ⟨_, rfl, ?_⟩; have HCq : Hid (Cs w wq g V L s2 U c2 r (.slice p n cap) tv mv kv ev) := HCd.out.call heq hfq HG.out; have HHq : Hid (HoldsL wq (fun i => Sc U c2 1 i ∧ (Value.slice p n cap).ownBlock ≠ some i) (encP x) (ptC x.va x.ty x.c.k (.slice p5 x.c.sb.length cap5) x.c.l x.c.r x.w x.n)) := (holdsP (t := x) (hhq.mono (fun i hi hl => ⟨⟨⟨Nat.lt_of_lt_of_le HUW.out hi, HPG.out i hi⟩, fun h8 => by { have h9 := HCd.out.2.1.r1.own_lt h8; have h7 : wa.drew.heap.size ≤ i := hi; omega }⟩, rfl⟩))); have cq : wq.cell? ⟨U, 1, none⟩ = some (.slice p n cap) := by { rw [cell_of_blk HCq.out.2.1.blk]; rfl }; have cqa : ∀ o, (wq.alloc o).cell? ⟨U, 1, none⟩ = some (.slice p n cap) := fun o => by { rw [World.cell?_alloc_past _ _ _ (blk_lt HCq.out.2.1.blk), cell_of_blk HCq.out.2.1.blk]; rfl }; have HBQ : Hid (Sc U c2 1 (wq.heap.size + 1)) := ⟨by { have := blk_lt HCq.out.2.1.blk; omega }, HPG.out _ (by { have h7 : wa.drew.heap.size ≤ wq.heap.size := hfq.size; have h6 : wa.drew.heap.size = wa.heap.size := rfl; omega })⟩; clear hhq heq hfq)
    | (refine step_app (by rfl) _ _ 37 (by rfl) 54 i0 zP 18 224 Tryd.underlying37 HI.out.1 HI.out.2.1 HI.out.2.2.1 HI.out.2.2.2 rfl (by omega) (Sc U c2 1) (.slice p n cap) (r.w.map encP) (by rfl) (HCq.out.2.1.r1.alloc _) (encP x) (ptC x.va x.ty x.c.k (.slice p5 x.c.sb.length cap5) x.c.l x.c.r x.w x.n) ⟨wq.heap.size, 0, none⟩ (by rfl) (by rfl) (World.news_of_block (heap_alloc_new _ _)) (by rfl) (HHq.out.on ((Fr.refl _ _).alloc _)) (by simpa using HBQ.out) HLN.out (by omega) n' HNX.out ?_; intro p' cap' w5 hrw hgb hown; have HRW5 : Hid (Row w5 (Sc U c2 1) 54 18 (.slice p' n' cap') (r.w.map encP ++ [encP x])) := hrw; have HGB : Hid ((wq.alloc (.cells (ptC x.va x.ty x.c.k (.slice p5 x.c.sb.length cap5) x.c.l x.c.r x.w x.n).toArray 54)).grownBy w5 (Value.slice p n cap).ownBlock ∧ ∀ k, (Value.slice p n cap).ownBlock = some k → Sc U c2 1 k) := ⟨hgb, hown⟩; have HB5 : Hid (w5.heap[U]? = some (.cells #[.string r.n, .slice p n cap, tv, mv, kv, .string r.e.ty, ev] 44 (0, 0))) := (hgb.block U (by { have := blk_lt HCq.out.2.1.blk; simp; omega }) (fun e => by { have := (hown U e.symm).1; omega })).trans ((Below.heap_alloc _ _ _ (blk_lt HCq.out.2.1.blk)).trans HCq.out.2.1.blk); have c5 : w5.cell? ⟨U, 1, none⟩ = some (.slice p n cap) := by { rw [cell_of_blk HB5.out]; rfl }; have f5 := free_of_blk HB5.out 1; clear hrw hgb hown))
  all_goals
    go_wp2_with fail
    go_end0
    exact ⟨rfl, _, _, _, _, _, _, Cs.app1 HCq.out _ HGB.out.1 HGB.out.2 HRW5.out HB5.out HG.out⟩
end Go.Proofs.YtnlmkdncifijlaaDoor
namespace Go.Proofs.YtnlmkdncifijlaaDoor
open Go.ChangeShapes Go.WideShapes Go.ChangeAt Go.RowKit Go.Maps
set_option linter.unusedVariables false
set_option linter.unusedSimpArgs false
set_option maxRecDepth 20000
set_option maxHeartbeats 8000000 in
theorem clause_not (w : World) (g : Nat) (V : Value) (L : List Tk) (s : St) (U : Nat) (col : Nat → Nat) (r : Rl) (wv tv mv kv ev : Value) (h : Env w g V L s) (hr : Rul w U col r wv tv mv kv ev) (hg : g < U) (h0 : s.o = 0) (hlen : r.w.length ≤ 700 ∧ r.t.length ≤ 700 ∧ r.m.length ≤ 700 ∧ r.k.length ≤ 700) (hb_T1 : see L [119, 104, 101, 110] s = false) (hb_T2 : see L [110, 111, 116] s = true) : Calls Tryd.prog 85 #[rp g, .pointer (some ⟨U, 0, none⟩)] w (CLPost w g V L U { r with t := r.t ++ [(pat L s.adv).1] } (pat L s.adv).2) := by
  have HG : Hid (g < U) := hg
  have HC0 : Hid (Cs w w g V L s U col r wv tv mv kv ev) := ⟨h, hr, Fr.refl _ _⟩
  have T1 : Hid (∀ W, Env W g V L s → Calls Tryd.prog 40 #[rp g, .string ⟨#[119, 104, 101, 110]⟩] W fun e w' => e = .returned (.bool false) ∧ Env w' g V L s ∧ Fr (fun i => i = g) W w') := fun W hW => by
    have := takes_any W g V L s [119, 104, 101, 110] hW
    unfold tks at this
    rw [hb_T1] at this
    exact this
  have T2 : Hid (∀ W, Env W g V L s → Calls Tryd.prog 40 #[rp g, .string ⟨#[110, 111, 116]⟩] W fun e w' => e = .returned (.bool true) ∧ Env w' g V L s.adv ∧ Fr (fun i => i = g) W w') := fun W hW => by
    have := takes_any W g V L s [110, 111, 116] hW
    unfold tks at this
    rw [hb_T2] at this
    exact this
  obtain ⟨i0, a1, a2, a3, a4⟩ := info_parts infoP
  have HI : Hid (Tryd.prog.info? 54 = some i0 ∧ i0.zero = some zP ∧ i0.size = 18 ∧ i0.bytes = 224) := ⟨a1, a2, a3, a4⟩
  have HP : Hid (∀ W, Env W g V L s.adv → Calls Tryd.prog 120 #[rp g] W (PPost W g V L (pat L s.adv).1 (pat L s.adv).2)) := fun W hW => pattern_any W g V L s.adv hW h0
  obtain ⟨x, hx⟩ : ∃ x, (pat L s.adv).1 = x := ⟨_, rfl⟩
  obtain ⟨s2, hs2⟩ : ∃ s2, (pat L s.adv).2 = s2 := ⟨_, rfl⟩
  rw [hx, hs2] at HP ⊢
  obtain ⟨p, cap, rfl⟩ : ∃ p cap, tv = .slice p r.t.length cap := by
    obtain ⟨p, cap, e⟩ := hr.r2.shape
    rw [List.length_map] at e
    exact ⟨p, cap, e⟩
  obtain ⟨n, hn⟩ : ∃ n, r.t.length = n := ⟨_, rfl⟩
  have HNN : Hid (r.t.length = n) := hn
  have HLN : Hid ((r.t.map encP).length ≤ 800) := by show _ ≤ 800; rw [List.length_map]; omega
  obtain ⟨n', hn'⟩ : ∃ n', n + 1 = n' := ⟨_, rfl⟩
  have HNX : Hid ((r.t.map encP).length + 1 = n') := by show _ + 1 = n'; rw [List.length_map]; omega
  rw [hn] at HC0
  clear a1 a2 a3 a4 hx hs2 h hr hg h0 hlen hn hn' hb_T1 hb_T2
  go_enter Tryd.func85, Tryd.ntmps85
  go_wp2_with (first
      | (go_at_call_of 40 (Value.string ⟨#[119, 104, 101, 110]⟩); refine (T1.out _ HC0.out.1).mono ?_; rintro e w1 ⟨rfl, he_, hf_⟩; have HC1 : Hid (Cs w w1 g V L s U col r wv (.slice p n cap) mv kv ev) := HC0.out.call he_ hf_ HG.out; clear he_ hf_)
      | (go_at_call_of 40 (Value.string ⟨#[110, 111, 116]⟩); refine (T2.out _ HC1.out.1).mono ?_; rintro e wa ⟨rfl, he_, hf_⟩; have HCa : Hid (Cs w wa g V L s.adv U col r wv (.slice p n cap) mv kv ev) := HC1.out.call he_ hf_ HG.out; clear he_ hf_))
  obtain ⟨c2, hc2⟩ : ∃ c2, paint col wa.heap.size 2 = c2 := ⟨_, rfl⟩
  have HPG : Hid (∀ i, wa.heap.size ≤ i → c2 i = 2) := fun i hi => by rw [← hc2]; exact paint_ge hi
  have HCd : Hid (Cs w wa.drew g V L s.adv U c2 r wv (.slice p n cap) mv kv ev) := by
    have h1 : Cs w wa g V L s.adv U (paint col wa.heap.size 2) r wv (.slice p n cap) mv kv ev := ⟨HCa.out.1, HCa.out.2.1.paint 2, HCa.out.2.2⟩
    rw [hc2] at h1
    exact h1.drew
  have HUW : Hid (U < wa.heap.size) := blk_lt HCa.out.2.1.blk
  have ca : wa.cell? ⟨U, 2, none⟩ = some (.slice p n cap) := by rw [cell_of_blk HCa.out.2.1.blk]; rfl
  clear hc2
  go_region_law (first
    | (refine step_call 120 ent_pattern (by rfl) _ _ (by rfl) (rp g) (by rfl) _ (HP.out _ HCd.out.1) ?_; rintro e wq ⟨p5, cap5, rfl, hhq, heq, hfq⟩; refine ⟨_, rfl, ?_⟩; have HCq : Hid (Cs w wq g V L s2 U c2 r wv (.slice p n cap) mv kv ev) := HCd.out.call heq hfq HG.out; have HHq : Hid (HoldsL wq (fun i => Sc U c2 2 i ∧ (Value.slice p n cap).ownBlock ≠ some i) (encP x) (ptC x.va x.ty x.c.k (.slice p5 x.c.sb.length cap5) x.c.l x.c.r x.w x.n)) := (holdsP (t := x) (hhq.mono (fun i hi hl => ⟨⟨⟨Nat.lt_of_lt_of_le HUW.out hi, HPG.out i hi⟩, fun h8 => by { have h9 := HCd.out.2.1.r2.own_lt h8; have h7 : wa.drew.heap.size ≤ i := hi; omega }⟩, rfl⟩))); have cq : wq.cell? ⟨U, 2, none⟩ = some (.slice p n cap) := by { rw [cell_of_blk HCq.out.2.1.blk]; rfl }; have cqa : ∀ o, (wq.alloc o).cell? ⟨U, 2, none⟩ = some (.slice p n cap) := fun o => by { rw [World.cell?_alloc_past _ _ _ (blk_lt HCq.out.2.1.blk), cell_of_blk HCq.out.2.1.blk]; rfl }; have HBQ : Hid (Sc U c2 2 (wq.heap.size + 1)) := ⟨by { have := blk_lt HCq.out.2.1.blk; omega }, HPG.out _ (by { have h7 : wa.drew.heap.size ≤ wq.heap.size := hfq.size; have h6 : wa.drew.heap.size = wa.heap.size := rfl; omega })⟩; clear hhq heq hfq)
    | (refine step_app (by rfl) _ _ 37 (by rfl) 54 i0 zP 18 224 Tryd.underlying37 HI.out.1 HI.out.2.1 HI.out.2.2.1 HI.out.2.2.2 rfl (by omega) (Sc U c2 2) (.slice p n cap) (r.t.map encP) (by rfl) (HCq.out.2.1.r2.alloc _) (encP x) (ptC x.va x.ty x.c.k (.slice p5 x.c.sb.length cap5) x.c.l x.c.r x.w x.n) ⟨wq.heap.size, 0, none⟩ (by rfl) (by rfl) (World.news_of_block (heap_alloc_new _ _)) (by rfl) (HHq.out.on ((Fr.refl _ _).alloc _)) (by simpa using HBQ.out) HLN.out (by omega) n' HNX.out ?_; intro p' cap' w5 hrw hgb hown; have HRW5 : Hid (Row w5 (Sc U c2 2) 54 18 (.slice p' n' cap') (r.t.map encP ++ [encP x])) := hrw; have HGB : Hid ((wq.alloc (.cells (ptC x.va x.ty x.c.k (.slice p5 x.c.sb.length cap5) x.c.l x.c.r x.w x.n).toArray 54)).grownBy w5 (Value.slice p n cap).ownBlock ∧ ∀ k, (Value.slice p n cap).ownBlock = some k → Sc U c2 2 k) := ⟨hgb, hown⟩; have HB5 : Hid (w5.heap[U]? = some (.cells #[.string r.n, wv, .slice p n cap, mv, kv, .string r.e.ty, ev] 44 (0, 0))) := (hgb.block U (by { have := blk_lt HCq.out.2.1.blk; simp; omega }) (fun e => by { have := (hown U e.symm).1; omega })).trans ((Below.heap_alloc _ _ _ (blk_lt HCq.out.2.1.blk)).trans HCq.out.2.1.blk); have c5 : w5.cell? ⟨U, 2, none⟩ = some (.slice p n cap) := by { rw [cell_of_blk HB5.out]; rfl }; have f5 := free_of_blk HB5.out 2; clear hrw hgb hown))
  all_goals
    go_wp2_with fail
    go_end0
    exact ⟨rfl, _, _, _, _, _, _, Cs.app2 HCq.out _ HGB.out.1 HGB.out.2 HRW5.out HB5.out HG.out⟩
end Go.Proofs.YtnlmkdncifijlaaDoor
namespace Go.Proofs.YtnlmkdncifijlaaDoor
open Go.ChangeShapes Go.WideShapes Go.ChangeAt Go.RowKit Go.Maps
set_option linter.unusedVariables false
set_option linter.unusedSimpArgs false
set_option maxRecDepth 20000
set_option maxHeartbeats 8000000 in
theorem clause_many (w : World) (g : Nat) (V : Value) (L : List Tk) (s : St) (U : Nat) (col : Nat → Nat) (r : Rl) (wv tv mv kv ev : Value) (h : Env w g V L s) (hr : Rul w U col r wv tv mv kv ev) (hg : g < U) (h0 : s.o = 0) (hlen : r.w.length ≤ 700 ∧ r.t.length ≤ 700 ∧ r.m.length ≤ 700 ∧ r.k.length ≤ 700) (hb_T1 : see L [119, 104, 101, 110] s = false) (hb_T2 : see L [110, 111, 116] s = false) (hb_T3 : see L [109, 97, 110, 121] s = true) : Calls Tryd.prog 85 #[rp g, .pointer (some ⟨U, 0, none⟩)] w (CLPost w g V L U { r with m := r.m ++ [(mny L s.adv).1] } (mny L s.adv).2) := by
  have HG : Hid (g < U) := hg
  have HC0 : Hid (Cs w w g V L s U col r wv tv mv kv ev) := ⟨h, hr, Fr.refl _ _⟩
  have T1 : Hid (∀ W, Env W g V L s → Calls Tryd.prog 40 #[rp g, .string ⟨#[119, 104, 101, 110]⟩] W fun e w' => e = .returned (.bool false) ∧ Env w' g V L s ∧ Fr (fun i => i = g) W w') := fun W hW => by
    have := takes_any W g V L s [119, 104, 101, 110] hW
    unfold tks at this
    rw [hb_T1] at this
    exact this
  have T2 : Hid (∀ W, Env W g V L s → Calls Tryd.prog 40 #[rp g, .string ⟨#[110, 111, 116]⟩] W fun e w' => e = .returned (.bool false) ∧ Env w' g V L s ∧ Fr (fun i => i = g) W w') := fun W hW => by
    have := takes_any W g V L s [110, 111, 116] hW
    unfold tks at this
    rw [hb_T2] at this
    exact this
  have T3 : Hid (∀ W, Env W g V L s → Calls Tryd.prog 40 #[rp g, .string ⟨#[109, 97, 110, 121]⟩] W fun e w' => e = .returned (.bool true) ∧ Env w' g V L s.adv ∧ Fr (fun i => i = g) W w') := fun W hW => by
    have := takes_any W g V L s [109, 97, 110, 121] hW
    unfold tks at this
    rw [hb_T3] at this
    exact this
  obtain ⟨i0, a1, a2, a3, a4⟩ := info_parts infoM
  have HI : Hid (Tryd.prog.info? 107 = some i0 ∧ i0.zero = some zM ∧ i0.size = 20 ∧ i0.bytes = 248) := ⟨a1, a2, a3, a4⟩
  have HP : Hid (∀ W, Env W g V L s.adv → Calls Tryd.prog 121 #[rp g] W (MPost W g V L (mny L s.adv).1 (mny L s.adv).2)) := fun W hW => many_any W g V L s.adv hW h0
  obtain ⟨x, hx⟩ : ∃ x, (mny L s.adv).1 = x := ⟨_, rfl⟩
  obtain ⟨s2, hs2⟩ : ∃ s2, (mny L s.adv).2 = s2 := ⟨_, rfl⟩
  rw [hx, hs2] at HP ⊢
  obtain ⟨p, cap, rfl⟩ : ∃ p cap, mv = .slice p r.m.length cap := by
    obtain ⟨p, cap, e⟩ := hr.r3.shape
    rw [List.length_map] at e
    exact ⟨p, cap, e⟩
  obtain ⟨n, hn⟩ : ∃ n, r.m.length = n := ⟨_, rfl⟩
  have HNN : Hid (r.m.length = n) := hn
  have HLN : Hid ((r.m.map encM).length ≤ 800) := by show _ ≤ 800; rw [List.length_map]; omega
  obtain ⟨n', hn'⟩ : ∃ n', n + 1 = n' := ⟨_, rfl⟩
  have HNX : Hid ((r.m.map encM).length + 1 = n') := by show _ + 1 = n'; rw [List.length_map]; omega
  rw [hn] at HC0
  clear a1 a2 a3 a4 hx hs2 h hr hg h0 hlen hn hn' hb_T1 hb_T2 hb_T3
  go_enter Tryd.func85, Tryd.ntmps85
  go_wp2_with (first
      | (go_at_call_of 40 (Value.string ⟨#[119, 104, 101, 110]⟩); refine (T1.out _ HC0.out.1).mono ?_; rintro e w1 ⟨rfl, he_, hf_⟩; have HC1 : Hid (Cs w w1 g V L s U col r wv tv (.slice p n cap) kv ev) := HC0.out.call he_ hf_ HG.out; clear he_ hf_)
      | (go_at_call_of 40 (Value.string ⟨#[110, 111, 116]⟩); refine (T2.out _ HC1.out.1).mono ?_; rintro e w2 ⟨rfl, he_, hf_⟩; have HC2 : Hid (Cs w w2 g V L s U col r wv tv (.slice p n cap) kv ev) := HC1.out.call he_ hf_ HG.out; clear he_ hf_)
      | (go_at_call_of 40 (Value.string ⟨#[109, 97, 110, 121]⟩); refine (T3.out _ HC2.out.1).mono ?_; rintro e wa ⟨rfl, he_, hf_⟩; have HCa : Hid (Cs w wa g V L s.adv U col r wv tv (.slice p n cap) kv ev) := HC2.out.call he_ hf_ HG.out; clear he_ hf_))
  obtain ⟨c2, hc2⟩ : ∃ c2, paint col wa.heap.size 3 = c2 := ⟨_, rfl⟩
  have HPG : Hid (∀ i, wa.heap.size ≤ i → c2 i = 3) := fun i hi => by rw [← hc2]; exact paint_ge hi
  have HCd : Hid (Cs w wa.drew g V L s.adv U c2 r wv tv (.slice p n cap) kv ev) := by
    have h1 : Cs w wa g V L s.adv U (paint col wa.heap.size 3) r wv tv (.slice p n cap) kv ev := ⟨HCa.out.1, HCa.out.2.1.paint 3, HCa.out.2.2⟩
    rw [hc2] at h1
    exact h1.drew
  have HUW : Hid (U < wa.heap.size) := blk_lt HCa.out.2.1.blk
  have ca : wa.cell? ⟨U, 3, none⟩ = some (.slice p n cap) := by rw [cell_of_blk HCa.out.2.1.blk]; rfl
  clear hc2
  go_region_law (first
    | (refine step_call 121 ent_many (by rfl) _ _ (by rfl) (rp g) (by rfl) _ (HP.out _ HCd.out.1) ?_; rintro e wq ⟨p5, cap5, rfl, hhq, heq, hfq⟩; refine ⟨_, rfl, ?_⟩; have HCq : Hid (Cs w wq g V L s2 U c2 r wv tv (.slice p n cap) kv ev) := HCd.out.call heq hfq HG.out; have HHq : Hid (HoldsL wq (fun i => Sc U c2 3 i ∧ (Value.slice p n cap).ownBlock ≠ some i) (encM x) (mnC x.c x.f x.p.va x.p.ty x.p.c.k (.slice p5 x.p.c.sb.length cap5) x.p.c.l x.p.c.r x.p.w x.p.n)) := (holdsM (m := x) (hhq.mono (fun i hi hl => ⟨⟨⟨Nat.lt_of_lt_of_le HUW.out hi, HPG.out i hi⟩, fun h8 => by { have h9 := HCd.out.2.1.r3.own_lt h8; have h7 : wa.drew.heap.size ≤ i := hi; omega }⟩, rfl⟩))); have cq : wq.cell? ⟨U, 3, none⟩ = some (.slice p n cap) := by { rw [cell_of_blk HCq.out.2.1.blk]; rfl }; have cqa : ∀ o, (wq.alloc o).cell? ⟨U, 3, none⟩ = some (.slice p n cap) := fun o => by { rw [World.cell?_alloc_past _ _ _ (blk_lt HCq.out.2.1.blk), cell_of_blk HCq.out.2.1.blk]; rfl }; have HBQ : Hid (Sc U c2 3 (wq.heap.size + 1)) := ⟨by { have := blk_lt HCq.out.2.1.blk; omega }, HPG.out _ (by { have h7 : wa.drew.heap.size ≤ wq.heap.size := hfq.size; have h6 : wa.drew.heap.size = wa.heap.size := rfl; omega })⟩; clear hhq heq hfq)
    | (refine step_app (by rfl) _ _ 38 (by rfl) 107 i0 zM 20 248 Tryd.underlying38 HI.out.1 HI.out.2.1 HI.out.2.2.1 HI.out.2.2.2 rfl (by omega) (Sc U c2 3) (.slice p n cap) (r.m.map encM) (by rfl) (HCq.out.2.1.r3.alloc _) (encM x) (mnC x.c x.f x.p.va x.p.ty x.p.c.k (.slice p5 x.p.c.sb.length cap5) x.p.c.l x.p.c.r x.p.w x.p.n) ⟨wq.heap.size, 0, none⟩ (by rfl) (by rfl) (World.news_of_block (heap_alloc_new _ _)) (by rfl) (HHq.out.on ((Fr.refl _ _).alloc _)) (by simpa using HBQ.out) HLN.out (by omega) n' HNX.out ?_; intro p' cap' w5 hrw hgb hown; have HRW5 : Hid (Row w5 (Sc U c2 3) 107 20 (.slice p' n' cap') (r.m.map encM ++ [encM x])) := hrw; have HGB : Hid ((wq.alloc (.cells (mnC x.c x.f x.p.va x.p.ty x.p.c.k (.slice p5 x.p.c.sb.length cap5) x.p.c.l x.p.c.r x.p.w x.p.n).toArray 107)).grownBy w5 (Value.slice p n cap).ownBlock ∧ ∀ k, (Value.slice p n cap).ownBlock = some k → Sc U c2 3 k) := ⟨hgb, hown⟩; have HB5 : Hid (w5.heap[U]? = some (.cells #[.string r.n, wv, tv, .slice p n cap, kv, .string r.e.ty, ev] 44 (0, 0))) := (hgb.block U (by { have := blk_lt HCq.out.2.1.blk; simp; omega }) (fun e => by { have := (hown U e.symm).1; omega })).trans ((Below.heap_alloc _ _ _ (blk_lt HCq.out.2.1.blk)).trans HCq.out.2.1.blk); have c5 : w5.cell? ⟨U, 3, none⟩ = some (.slice p n cap) := by { rw [cell_of_blk HB5.out]; rfl }; have f5 := free_of_blk HB5.out 3; clear hrw hgb hown))
  all_goals
    go_wp2_with fail
    go_end0
    exact ⟨rfl, _, _, _, _, _, _, Cs.app3 HCq.out _ HGB.out.1 HGB.out.2 HRW5.out HB5.out HG.out⟩
end Go.Proofs.YtnlmkdncifijlaaDoor
namespace Go.Proofs.YtnlmkdncifijlaaDoor
open Go.ChangeShapes Go.WideShapes Go.ChangeAt Go.RowKit Go.Maps
set_option linter.unusedVariables false
set_option linter.unusedSimpArgs false
set_option maxRecDepth 20000
set_option maxHeartbeats 8000000 in
theorem clause_where (w : World) (g : Nat) (V : Value) (L : List Tk) (s : St) (U : Nat) (col : Nat → Nat) (r : Rl) (wv tv mv kv ev : Value) (h : Env w g V L s) (hr : Rul w U col r wv tv mv kv ev) (hg : g < U) (h0 : s.o = 0) (hlen : r.w.length ≤ 700 ∧ r.t.length ≤ 700 ∧ r.m.length ≤ 700 ∧ r.k.length ≤ 700) (hb_T1 : see L [119, 104, 101, 110] s = false) (hb_T2 : see L [110, 111, 116] s = false) (hb_T3 : see L [109, 97, 110, 121] s = false) (hb_T4 : see L [101, 109, 105, 116] s = false) (hb_T5 : see L [119, 104, 101, 114, 101] s = true) (hty : r.e.ty.data.toList = []) : Calls Tryd.prog 85 #[rp g, .pointer (some ⟨U, 0, none⟩)] w (CLPost w g V L U { r with k := r.k ++ [(lnk L s.adv).1] } (lnk L s.adv).2) := by
  have HG : Hid (g < U) := hg
  have HC0 : Hid (Cs w w g V L s U col r wv tv mv kv ev) := ⟨h, hr, Fr.refl _ _⟩
  have T1 : Hid (∀ W, Env W g V L s → Calls Tryd.prog 40 #[rp g, .string ⟨#[119, 104, 101, 110]⟩] W fun e w' => e = .returned (.bool false) ∧ Env w' g V L s ∧ Fr (fun i => i = g) W w') := fun W hW => by
    have := takes_any W g V L s [119, 104, 101, 110] hW
    unfold tks at this
    rw [hb_T1] at this
    exact this
  have T2 : Hid (∀ W, Env W g V L s → Calls Tryd.prog 40 #[rp g, .string ⟨#[110, 111, 116]⟩] W fun e w' => e = .returned (.bool false) ∧ Env w' g V L s ∧ Fr (fun i => i = g) W w') := fun W hW => by
    have := takes_any W g V L s [110, 111, 116] hW
    unfold tks at this
    rw [hb_T2] at this
    exact this
  have T3 : Hid (∀ W, Env W g V L s → Calls Tryd.prog 40 #[rp g, .string ⟨#[109, 97, 110, 121]⟩] W fun e w' => e = .returned (.bool false) ∧ Env w' g V L s ∧ Fr (fun i => i = g) W w') := fun W hW => by
    have := takes_any W g V L s [109, 97, 110, 121] hW
    unfold tks at this
    rw [hb_T3] at this
    exact this
  have T4 : Hid (∀ W, Env W g V L s → Calls Tryd.prog 40 #[rp g, .string ⟨#[101, 109, 105, 116]⟩] W fun e w' => e = .returned (.bool false) ∧ Env w' g V L s ∧ Fr (fun i => i = g) W w') := fun W hW => by
    have := takes_any W g V L s [101, 109, 105, 116] hW
    unfold tks at this
    rw [hb_T4] at this
    exact this
  have T5 : Hid (∀ W, Env W g V L s → Calls Tryd.prog 40 #[rp g, .string ⟨#[119, 104, 101, 114, 101]⟩] W fun e w' => e = .returned (.bool true) ∧ Env w' g V L s.adv ∧ Fr (fun i => i = g) W w') := fun W hW => by
    have := takes_any W g V L s [119, 104, 101, 114, 101] hW
    unfold tks at this
    rw [hb_T5] at this
    exact this
  obtain ⟨i0, a1, a2, a3, a4⟩ := info_parts infoK
  have HI : Hid (Tryd.prog.info? 62 = some i0 ∧ i0.zero = some (.agg #[.string ByteArray.empty, .slice none 0 0, .string ByteArray.empty]) ∧ i0.size = 3 ∧ i0.bytes = 56) := ⟨a1, a2, a3, a4⟩
  have HP : Hid (∀ W, Env W g V L s.adv → Calls Tryd.prog 123 #[rp g] W (KPost W g V L (lnk L s.adv).1 (lnk L s.adv).2)) := fun W hW => link_any W g V L s.adv hW
  obtain ⟨x, hx⟩ : ∃ x, (lnk L s.adv).1 = x := ⟨_, rfl⟩
  obtain ⟨s2, hs2⟩ : ∃ s2, (lnk L s.adv).2 = s2 := ⟨_, rfl⟩
  rw [hx, hs2] at HP ⊢
  obtain ⟨p, cap, rfl⟩ : ∃ p cap, kv = .slice p r.k.length cap := by
    obtain ⟨p, cap, e⟩ := hr.r4.shape
    rw [List.length_map] at e
    exact ⟨p, cap, e⟩
  obtain ⟨n, hn⟩ : ∃ n, r.k.length = n := ⟨_, rfl⟩
  have HNN : Hid (r.k.length = n) := hn
  have HLN : Hid ((r.k.map encK).length ≤ 800) := by show _ ≤ 800; rw [List.length_map]; omega
  obtain ⟨n', hn'⟩ : ∃ n', n + 1 = n' := ⟨_, rfl⟩
  have HNX : Hid ((r.k.map encK).length + 1 = n') := by show _ + 1 = n'; rw [List.length_map]; omega
  rw [hn] at HC0
  have hq1 : (r.e.ty.toList == []) = true := by rw [Lib.toList_data]; simpa using hty
  have hq2 : (r.e.ty.toList == (⟨#[]⟩ : ByteArray).toList) = true := by rw [Lib.toList_data, Lib.toList_data]; simpa using hty
  have cE : ∀ W col, Rul W U col r wv tv mv (.slice p n cap) ev → W.cell? ⟨U, 5, none⟩ = some (.string r.e.ty) := fun W col hW => by rw [cell_of_blk hW.blk]; rfl
  have HCE : Hid (∀ W col, Rul W U col r wv tv mv (.slice p n cap) ev → W.cell? ⟨U, 5, none⟩ = some (.string r.e.ty)) := cE
  clear cE
  clear a1 a2 a3 a4 hx hs2 h hr hg h0 hlen hn hn' hb_T1 hb_T2 hb_T3 hb_T4 hb_T5 hty
  go_enter Tryd.func85, Tryd.ntmps85
  go_wp2_with (first
      | (go_at_call_of 40 (Value.string ⟨#[119, 104, 101, 110]⟩); refine (T1.out _ HC0.out.1).mono ?_; rintro e w1 ⟨rfl, he_, hf_⟩; have HC1 : Hid (Cs w w1 g V L s U col r wv tv mv (.slice p n cap) ev) := HC0.out.call he_ hf_ HG.out; clear he_ hf_)
      | (go_at_call_of 40 (Value.string ⟨#[110, 111, 116]⟩); refine (T2.out _ HC1.out.1).mono ?_; rintro e w2 ⟨rfl, he_, hf_⟩; have HC2 : Hid (Cs w w2 g V L s U col r wv tv mv (.slice p n cap) ev) := HC1.out.call he_ hf_ HG.out; clear he_ hf_)
      | (go_at_call_of 40 (Value.string ⟨#[109, 97, 110, 121]⟩); refine (T3.out _ HC2.out.1).mono ?_; rintro e w3 ⟨rfl, he_, hf_⟩; have HC3 : Hid (Cs w w3 g V L s U col r wv tv mv (.slice p n cap) ev) := HC2.out.call he_ hf_ HG.out; clear he_ hf_; have cE3 := HCE.out _ _ HC3.out.2.1)
      | (go_at_call_of 40 (Value.string ⟨#[101, 109, 105, 116]⟩); refine (T4.out _ HC3.out.1).mono ?_; rintro e w4 ⟨rfl, he_, hf_⟩; have HC4 : Hid (Cs w w4 g V L s U col r wv tv mv (.slice p n cap) ev) := HC3.out.call he_ hf_ HG.out; clear he_ hf_)
      | (go_at_call_of 40 (Value.string ⟨#[119, 104, 101, 114, 101]⟩); refine (T5.out _ HC4.out.1).mono ?_; rintro e wa ⟨rfl, he_, hf_⟩; have HCa : Hid (Cs w wa g V L s.adv U col r wv tv mv (.slice p n cap) ev) := HC4.out.call he_ hf_ HG.out; clear he_ hf_))
  obtain ⟨c2, hc2⟩ : ∃ c2, paint col wa.heap.size 4 = c2 := ⟨_, rfl⟩
  have HPG : Hid (∀ i, wa.heap.size ≤ i → c2 i = 4) := fun i hi => by rw [← hc2]; exact paint_ge hi
  have HCd : Hid (Cs w wa.drew g V L s.adv U c2 r wv tv mv (.slice p n cap) ev) := by
    have h1 : Cs w wa g V L s.adv U (paint col wa.heap.size 4) r wv tv mv (.slice p n cap) ev := ⟨HCa.out.1, HCa.out.2.1.paint 4, HCa.out.2.2⟩
    rw [hc2] at h1
    exact h1.drew
  have HUW : Hid (U < wa.heap.size) := blk_lt HCa.out.2.1.blk
  have ca : wa.cell? ⟨U, 4, none⟩ = some (.slice p n cap) := by rw [cell_of_blk HCa.out.2.1.blk]; rfl
  clear hc2
  go_region_law (first
    | (refine step_call 123 ent_link (by rfl) _ _ (by rfl) (rp g) (by rfl) _ (HP.out _ HCd.out.1) ?_; rintro e wq ⟨p5, cap5, rfl, hhq, heq, hfq⟩; refine ⟨_, rfl, ?_⟩; have HCq : Hid (Cs w wq g V L s2 U c2 r wv tv mv (.slice p n cap) ev) := HCd.out.call heq hfq HG.out; have HHq : Hid (HoldsL wq (fun i => Sc U c2 4 i ∧ (Value.slice p n cap).ownBlock ≠ some i) (encK x) (lkC x.l (.slice p5 x.o.length cap5) x.r)) := (holdsK (k := x) (hhq.mono (fun i hi hl => ⟨⟨⟨Nat.lt_of_lt_of_le HUW.out hi, HPG.out i hi⟩, fun h8 => by { have h9 := HCd.out.2.1.r4.own_lt h8; have h7 : wa.drew.heap.size ≤ i := hi; omega }⟩, rfl⟩))); have cq : wq.cell? ⟨U, 4, none⟩ = some (.slice p n cap) := by { rw [cell_of_blk HCq.out.2.1.blk]; rfl }; have cqa : ∀ o, (wq.alloc o).cell? ⟨U, 4, none⟩ = some (.slice p n cap) := fun o => by { rw [World.cell?_alloc_past _ _ _ (blk_lt HCq.out.2.1.blk), cell_of_blk HCq.out.2.1.blk]; rfl }; have HBQ : Hid (Sc U c2 4 (wq.heap.size + 1)) := ⟨by { have := blk_lt HCq.out.2.1.blk; omega }, HPG.out _ (by { have h7 : wa.drew.heap.size ≤ wq.heap.size := hfq.size; have h6 : wa.drew.heap.size = wa.heap.size := rfl; omega })⟩; clear hhq heq hfq)
    | (refine step_app (by rfl) _ _ 39 (by rfl) 62 i0 (.agg #[.string ByteArray.empty, .slice none 0 0, .string ByteArray.empty]) 3 56 Tryd.underlying39 HI.out.1 HI.out.2.1 HI.out.2.2.1 HI.out.2.2.2 rfl (by omega) (Sc U c2 4) (.slice p n cap) (r.k.map encK) (by rfl) (HCq.out.2.1.r4.alloc _) (encK x) (lkC x.l (.slice p5 x.o.length cap5) x.r) ⟨wq.heap.size, 0, none⟩ (by rfl) (by rfl) (World.news_of_block (heap_alloc_new _ _)) (by rfl) (HHq.out.on ((Fr.refl _ _).alloc _)) (by simpa using HBQ.out) HLN.out (by omega) n' HNX.out ?_; intro p' cap' w5 hrw hgb hown; have HRW5 : Hid (Row w5 (Sc U c2 4) 62 3 (.slice p' n' cap') (r.k.map encK ++ [encK x])) := hrw; have HGB : Hid ((wq.alloc (.cells (lkC x.l (.slice p5 x.o.length cap5) x.r).toArray 62)).grownBy w5 (Value.slice p n cap).ownBlock ∧ ∀ k, (Value.slice p n cap).ownBlock = some k → Sc U c2 4 k) := ⟨hgb, hown⟩; have HB5 : Hid (w5.heap[U]? = some (.cells #[.string r.n, wv, tv, mv, .slice p n cap, .string r.e.ty, ev] 44 (0, 0))) := (hgb.block U (by { have := blk_lt HCq.out.2.1.blk; simp; omega }) (fun e => by { have := (hown U e.symm).1; omega })).trans ((Below.heap_alloc _ _ _ (blk_lt HCq.out.2.1.blk)).trans HCq.out.2.1.blk); have c5 : w5.cell? ⟨U, 4, none⟩ = some (.slice p n cap) := by { rw [cell_of_blk HB5.out]; rfl }; have f5 := free_of_blk HB5.out 4; clear hrw hgb hown))
  all_goals
    go_wp2_with fail
    go_end0
    exact ⟨rfl, _, _, _, _, _, _, Cs.app4 HCq.out _ HGB.out.1 HGB.out.2 HRW5.out HB5.out HG.out⟩
set_option maxHeartbeats 8000000 in
theorem clause_where2 (w : World) (g : Nat) (V : Value) (L : List Tk) (s : St) (U : Nat) (col : Nat → Nat) (r : Rl) (wv tv mv kv ev : Value) (h : Env w g V L s) (hr : Rul w U col r wv tv mv kv ev) (hg : g < U) (h0 : s.o = 0) (hlen : r.w.length ≤ 700 ∧ r.t.length ≤ 700 ∧ r.m.length ≤ 700 ∧ r.k.length ≤ 700) (hb_T1 : see L [119, 104, 101, 110] s = false) (hb_T2 : see L [110, 111, 116] s = false) (hb_T3 : see L [109, 97, 110, 121] s = false) (hb_T5 : see L [119, 104, 101, 114, 101] s = true) (hty : ¬ r.e.ty.data.toList = []) : Calls Tryd.prog 85 #[rp g, .pointer (some ⟨U, 0, none⟩)] w (CLPost w g V L U { r with k := r.k ++ [(lnk L s.adv).1] } (lnk L s.adv).2) := by
  have HG : Hid (g < U) := hg
  have HC0 : Hid (Cs w w g V L s U col r wv tv mv kv ev) := ⟨h, hr, Fr.refl _ _⟩
  have T1 : Hid (∀ W, Env W g V L s → Calls Tryd.prog 40 #[rp g, .string ⟨#[119, 104, 101, 110]⟩] W fun e w' => e = .returned (.bool false) ∧ Env w' g V L s ∧ Fr (fun i => i = g) W w') := fun W hW => by
    have := takes_any W g V L s [119, 104, 101, 110] hW
    unfold tks at this
    rw [hb_T1] at this
    exact this
  have T2 : Hid (∀ W, Env W g V L s → Calls Tryd.prog 40 #[rp g, .string ⟨#[110, 111, 116]⟩] W fun e w' => e = .returned (.bool false) ∧ Env w' g V L s ∧ Fr (fun i => i = g) W w') := fun W hW => by
    have := takes_any W g V L s [110, 111, 116] hW
    unfold tks at this
    rw [hb_T2] at this
    exact this
  have T3 : Hid (∀ W, Env W g V L s → Calls Tryd.prog 40 #[rp g, .string ⟨#[109, 97, 110, 121]⟩] W fun e w' => e = .returned (.bool false) ∧ Env w' g V L s ∧ Fr (fun i => i = g) W w') := fun W hW => by
    have := takes_any W g V L s [109, 97, 110, 121] hW
    unfold tks at this
    rw [hb_T3] at this
    exact this
  have T5 : Hid (∀ W, Env W g V L s → Calls Tryd.prog 40 #[rp g, .string ⟨#[119, 104, 101, 114, 101]⟩] W fun e w' => e = .returned (.bool true) ∧ Env w' g V L s.adv ∧ Fr (fun i => i = g) W w') := fun W hW => by
    have := takes_any W g V L s [119, 104, 101, 114, 101] hW
    unfold tks at this
    rw [hb_T5] at this
    exact this
  obtain ⟨i0, a1, a2, a3, a4⟩ := info_parts infoK
  have HI : Hid (Tryd.prog.info? 62 = some i0 ∧ i0.zero = some (.agg #[.string ByteArray.empty, .slice none 0 0, .string ByteArray.empty]) ∧ i0.size = 3 ∧ i0.bytes = 56) := ⟨a1, a2, a3, a4⟩
  have HP : Hid (∀ W, Env W g V L s.adv → Calls Tryd.prog 123 #[rp g] W (KPost W g V L (lnk L s.adv).1 (lnk L s.adv).2)) := fun W hW => link_any W g V L s.adv hW
  obtain ⟨x, hx⟩ : ∃ x, (lnk L s.adv).1 = x := ⟨_, rfl⟩
  obtain ⟨s2, hs2⟩ : ∃ s2, (lnk L s.adv).2 = s2 := ⟨_, rfl⟩
  rw [hx, hs2] at HP ⊢
  obtain ⟨p, cap, rfl⟩ : ∃ p cap, kv = .slice p r.k.length cap := by
    obtain ⟨p, cap, e⟩ := hr.r4.shape
    rw [List.length_map] at e
    exact ⟨p, cap, e⟩
  obtain ⟨n, hn⟩ : ∃ n, r.k.length = n := ⟨_, rfl⟩
  have HNN : Hid (r.k.length = n) := hn
  have HLN : Hid ((r.k.map encK).length ≤ 800) := by show _ ≤ 800; rw [List.length_map]; omega
  obtain ⟨n', hn'⟩ : ∃ n', n + 1 = n' := ⟨_, rfl⟩
  have HNX : Hid ((r.k.map encK).length + 1 = n') := by show _ + 1 = n'; rw [List.length_map]; omega
  rw [hn] at HC0
  have hq1 : (r.e.ty.toList == []) = false := by rw [Lib.toList_data]; simpa using hty
  have hq2 : (r.e.ty.toList == (⟨#[]⟩ : ByteArray).toList) = false := by rw [Lib.toList_data, Lib.toList_data]; simpa using hty
  have cE : ∀ W col, Rul W U col r wv tv mv (.slice p n cap) ev → W.cell? ⟨U, 5, none⟩ = some (.string r.e.ty) := fun W col hW => by rw [cell_of_blk hW.blk]; rfl
  have HCE : Hid (∀ W col, Rul W U col r wv tv mv (.slice p n cap) ev → W.cell? ⟨U, 5, none⟩ = some (.string r.e.ty)) := cE
  clear cE
  clear a1 a2 a3 a4 hx hs2 h hr hg h0 hlen hn hn' hb_T1 hb_T2 hb_T3 hb_T5 hty
  go_enter Tryd.func85, Tryd.ntmps85
  go_wp2_with (first
      | (go_at_call_of 40 (Value.string ⟨#[119, 104, 101, 110]⟩); refine (T1.out _ HC0.out.1).mono ?_; rintro e w1 ⟨rfl, he_, hf_⟩; have HC1 : Hid (Cs w w1 g V L s U col r wv tv mv (.slice p n cap) ev) := HC0.out.call he_ hf_ HG.out; clear he_ hf_)
      | (go_at_call_of 40 (Value.string ⟨#[110, 111, 116]⟩); refine (T2.out _ HC1.out.1).mono ?_; rintro e w2 ⟨rfl, he_, hf_⟩; have HC2 : Hid (Cs w w2 g V L s U col r wv tv mv (.slice p n cap) ev) := HC1.out.call he_ hf_ HG.out; clear he_ hf_)
      | (go_at_call_of 40 (Value.string ⟨#[109, 97, 110, 121]⟩); refine (T3.out _ HC2.out.1).mono ?_; rintro e w3 ⟨rfl, he_, hf_⟩; have HC3 : Hid (Cs w w3 g V L s U col r wv tv mv (.slice p n cap) ev) := HC2.out.call he_ hf_ HG.out; clear he_ hf_; have cE3 := HCE.out _ _ HC3.out.2.1)
      | (go_at_call_of 40 (Value.string ⟨#[119, 104, 101, 114, 101]⟩); refine (T5.out _ HC3.out.1).mono ?_; rintro e wa ⟨rfl, he_, hf_⟩; have HCa : Hid (Cs w wa g V L s.adv U col r wv tv mv (.slice p n cap) ev) := HC3.out.call he_ hf_ HG.out; clear he_ hf_))
  obtain ⟨c2, hc2⟩ : ∃ c2, paint col wa.heap.size 4 = c2 := ⟨_, rfl⟩
  have HPG : Hid (∀ i, wa.heap.size ≤ i → c2 i = 4) := fun i hi => by rw [← hc2]; exact paint_ge hi
  have HCd : Hid (Cs w wa.drew g V L s.adv U c2 r wv tv mv (.slice p n cap) ev) := by
    have h1 : Cs w wa g V L s.adv U (paint col wa.heap.size 4) r wv tv mv (.slice p n cap) ev := ⟨HCa.out.1, HCa.out.2.1.paint 4, HCa.out.2.2⟩
    rw [hc2] at h1
    exact h1.drew
  have HUW : Hid (U < wa.heap.size) := blk_lt HCa.out.2.1.blk
  have ca : wa.cell? ⟨U, 4, none⟩ = some (.slice p n cap) := by rw [cell_of_blk HCa.out.2.1.blk]; rfl
  clear hc2
  go_region_law (first
    | (refine step_call 123 ent_link (by rfl) _ _ (by rfl) (rp g) (by rfl) _ (HP.out _ HCd.out.1) ?_; rintro e wq ⟨p5, cap5, rfl, hhq, heq, hfq⟩; refine ⟨_, rfl, ?_⟩; have HCq : Hid (Cs w wq g V L s2 U c2 r wv tv mv (.slice p n cap) ev) := HCd.out.call heq hfq HG.out; have HHq : Hid (HoldsL wq (fun i => Sc U c2 4 i ∧ (Value.slice p n cap).ownBlock ≠ some i) (encK x) (lkC x.l (.slice p5 x.o.length cap5) x.r)) := (holdsK (k := x) (hhq.mono (fun i hi hl => ⟨⟨⟨Nat.lt_of_lt_of_le HUW.out hi, HPG.out i hi⟩, fun h8 => by { have h9 := HCd.out.2.1.r4.own_lt h8; have h7 : wa.drew.heap.size ≤ i := hi; omega }⟩, rfl⟩))); have cq : wq.cell? ⟨U, 4, none⟩ = some (.slice p n cap) := by { rw [cell_of_blk HCq.out.2.1.blk]; rfl }; have cqa : ∀ o, (wq.alloc o).cell? ⟨U, 4, none⟩ = some (.slice p n cap) := fun o => by { rw [World.cell?_alloc_past _ _ _ (blk_lt HCq.out.2.1.blk), cell_of_blk HCq.out.2.1.blk]; rfl }; have HBQ : Hid (Sc U c2 4 (wq.heap.size + 1)) := ⟨by { have := blk_lt HCq.out.2.1.blk; omega }, HPG.out _ (by { have h7 : wa.drew.heap.size ≤ wq.heap.size := hfq.size; have h6 : wa.drew.heap.size = wa.heap.size := rfl; omega })⟩; clear hhq heq hfq)
    | (refine step_app (by rfl) _ _ 39 (by rfl) 62 i0 (.agg #[.string ByteArray.empty, .slice none 0 0, .string ByteArray.empty]) 3 56 Tryd.underlying39 HI.out.1 HI.out.2.1 HI.out.2.2.1 HI.out.2.2.2 rfl (by omega) (Sc U c2 4) (.slice p n cap) (r.k.map encK) (by rfl) (HCq.out.2.1.r4.alloc _) (encK x) (lkC x.l (.slice p5 x.o.length cap5) x.r) ⟨wq.heap.size, 0, none⟩ (by rfl) (by rfl) (World.news_of_block (heap_alloc_new _ _)) (by rfl) (HHq.out.on ((Fr.refl _ _).alloc _)) (by simpa using HBQ.out) HLN.out (by omega) n' HNX.out ?_; intro p' cap' w5 hrw hgb hown; have HRW5 : Hid (Row w5 (Sc U c2 4) 62 3 (.slice p' n' cap') (r.k.map encK ++ [encK x])) := hrw; have HGB : Hid ((wq.alloc (.cells (lkC x.l (.slice p5 x.o.length cap5) x.r).toArray 62)).grownBy w5 (Value.slice p n cap).ownBlock ∧ ∀ k, (Value.slice p n cap).ownBlock = some k → Sc U c2 4 k) := ⟨hgb, hown⟩; have HB5 : Hid (w5.heap[U]? = some (.cells #[.string r.n, wv, tv, mv, .slice p n cap, .string r.e.ty, ev] 44 (0, 0))) := (hgb.block U (by { have := blk_lt HCq.out.2.1.blk; simp; omega }) (fun e => by { have := (hown U e.symm).1; omega })).trans ((Below.heap_alloc _ _ _ (blk_lt HCq.out.2.1.blk)).trans HCq.out.2.1.blk); have c5 : w5.cell? ⟨U, 4, none⟩ = some (.slice p n cap) := by { rw [cell_of_blk HB5.out]; rfl }; have f5 := free_of_blk HB5.out 4; clear hrw hgb hown))
  all_goals
    go_wp2_with fail
    go_end0
    exact ⟨rfl, _, _, _, _, _, _, Cs.app4 HCq.out _ HGB.out.1 HGB.out.2 HRW5.out HB5.out HG.out⟩
end Go.Proofs.YtnlmkdncifijlaaDoor
namespace Go.Proofs.YtnlmkdncifijlaaDoor
open Go.ChangeShapes Go.WideShapes Go.ChangeAt Go.RowKit Go.Maps
set_option linter.unusedVariables false
set_option linter.unusedSimpArgs false
set_option maxRecDepth 20000
set_option maxHeartbeats 8000000 in
theorem clause_emit (w : World) (g : Nat) (V : Value) (L : List Tk) (s : St) (U : Nat) (col : Nat → Nat) (r : Rl) (wv tv mv kv ev : Value) (h : Env w g V L s) (hr : Rul w U col r wv tv mv kv ev) (hg : g < U) (h0 : s.o = 0) (hlen : r.w.length ≤ 700 ∧ r.t.length ≤ 700 ∧ r.m.length ≤ 700 ∧ r.k.length ≤ 700) (hb_T1 : see L [119, 104, 101, 110] s = false) (hb_T2 : see L [110, 111, 116] s = false) (hb_T3 : see L [109, 97, 110, 121] s = false) (hb_T4 : see L [101, 109, 105, 116] s = true) (hty : r.e.ty.data.toList = []) : Calls Tryd.prog 85 #[rp g, .pointer (some ⟨U, 0, none⟩)] w (CLPost w g V L U { r with e := (emt L s.adv).1 } (emt L s.adv).2) := by
  have HG : Hid (g < U) := hg
  have HC0 : Hid (Cs w w g V L s U col r wv tv mv kv ev) := ⟨h, hr, Fr.refl _ _⟩
  have T1 : Hid (∀ W, Env W g V L s → Calls Tryd.prog 40 #[rp g, .string ⟨#[119, 104, 101, 110]⟩] W fun e w' => e = .returned (.bool false) ∧ Env w' g V L s ∧ Fr (fun i => i = g) W w') := fun W hW => by
    have := takes_any W g V L s [119, 104, 101, 110] hW
    unfold tks at this
    rw [hb_T1] at this
    exact this
  have T2 : Hid (∀ W, Env W g V L s → Calls Tryd.prog 40 #[rp g, .string ⟨#[110, 111, 116]⟩] W fun e w' => e = .returned (.bool false) ∧ Env w' g V L s ∧ Fr (fun i => i = g) W w') := fun W hW => by
    have := takes_any W g V L s [110, 111, 116] hW
    unfold tks at this
    rw [hb_T2] at this
    exact this
  have T3 : Hid (∀ W, Env W g V L s → Calls Tryd.prog 40 #[rp g, .string ⟨#[109, 97, 110, 121]⟩] W fun e w' => e = .returned (.bool false) ∧ Env w' g V L s ∧ Fr (fun i => i = g) W w') := fun W hW => by
    have := takes_any W g V L s [109, 97, 110, 121] hW
    unfold tks at this
    rw [hb_T3] at this
    exact this
  have T4 : Hid (∀ W, Env W g V L s → Calls Tryd.prog 40 #[rp g, .string ⟨#[101, 109, 105, 116]⟩] W fun e w' => e = .returned (.bool true) ∧ Env w' g V L s.adv ∧ Fr (fun i => i = g) W w') := fun W hW => by
    have := takes_any W g V L s [101, 109, 105, 116] hW
    unfold tks at this
    rw [hb_T4] at this
    exact this
  have HP : Hid (∀ W, Env W g V L s.adv → Calls Tryd.prog 122 #[rp g] W (NPost W g V L 50 6 encO (emt L s.adv).1.ty (emt L s.adv).1.v (emt L s.adv).2)) := fun W hW => emit_any W g V L s.adv hW
  obtain ⟨x, hx⟩ : ∃ x, (emt L s.adv).1 = x := ⟨_, rfl⟩
  obtain ⟨s2, hs2⟩ : ∃ s2, (emt L s.adv).2 = s2 := ⟨_, rfl⟩
  rw [hx, hs2] at HP ⊢
  have hq1 : (r.e.ty.toList == []) = true := by rw [Lib.toList_data]; simpa using hty
  have hq2 : (r.e.ty.toList == (⟨#[]⟩ : ByteArray).toList) = true := by rw [Lib.toList_data, Lib.toList_data]; simpa using hty
  have HCE : Hid (∀ W col, Rul W U col r wv tv mv kv ev → W.cell? ⟨U, 5, none⟩ = some (.string r.e.ty)) := fun W col hW => by rw [cell_of_blk hW.blk]; rfl
  clear hx hs2 h hr hg h0 hlen hb_T1 hb_T2 hb_T3 hb_T4 hty
  go_enter Tryd.func85, Tryd.ntmps85
  go_wp2_with (first
      | (go_at_call_of 40 (Value.string ⟨#[119, 104, 101, 110]⟩); refine (T1.out _ HC0.out.1).mono ?_; rintro e w1 ⟨rfl, he_, hf_⟩; have HC1 : Hid (Cs w w1 g V L s U col r wv tv mv kv ev) := HC0.out.call he_ hf_ HG.out; clear he_ hf_)
      | (go_at_call_of 40 (Value.string ⟨#[110, 111, 116]⟩); refine (T2.out _ HC1.out.1).mono ?_; rintro e w2 ⟨rfl, he_, hf_⟩; have HC2 : Hid (Cs w w2 g V L s U col r wv tv mv kv ev) := HC1.out.call he_ hf_ HG.out; clear he_ hf_)
      | (go_at_call_of 40 (Value.string ⟨#[109, 97, 110, 121]⟩); refine (T3.out _ HC2.out.1).mono ?_; rintro e w3 ⟨rfl, he_, hf_⟩; have HC3 : Hid (Cs w w3 g V L s U col r wv tv mv kv ev) := HC2.out.call he_ hf_ HG.out; clear he_ hf_; have cE3 := HCE.out _ _ HC3.out.2.1)
      | (go_at_call_of 40 (Value.string ⟨#[101, 109, 105, 116]⟩); refine (T4.out _ HC3.out.1).mono ?_; rintro e wa ⟨rfl, he_, hf_⟩; have HCa : Hid (Cs w wa g V L s.adv U col r wv tv mv kv ev) := HC3.out.call he_ hf_ HG.out; clear he_ hf_)
      | (go_at_call 122; refine (HP.out _ HCa.out.1).mono ?_; rintro e wq ⟨p5, cap5, rfl, hhq, heq, hfq⟩; have HCq : Hid (Cs w wq g V L s2 U (paint col wa.heap.size 6) r wv tv mv kv ev) := (Cs.call ⟨HCa.out.1, HCa.out.2.1.paint 6, HCa.out.2.2⟩ heq hfq HG.out); have HHq : Hid (Holds wq (fun i => wa.heap.size ≤ i) (.row 50 6 (x.v.map encO)) (.slice p5 x.v.length cap5)) := hhq; have HUW : Hid (U < wa.heap.size) := blk_lt HCa.out.2.1.blk; clear hhq heq hfq)
      | (refine wp_st (by rfl) 42 _ _ (by rfl) U 5 [.string r.n, wv, tv, mv, kv, .string r.e.ty, ev] 44 (.agg #[.string x.ty, .slice p5 x.v.length cap5]) [.string x.ty, .slice p5 x.v.length cap5] (by rfl) (by rfl) (by rfl) HCq.out.2.1.blk (Nat.le_of_ble_eq_true rfl) (by kernel_rfl) (by rfl) ?_; intro w9 hw9 hf9; have HW9 : Hid (w9.heap[U]? = some (.cells #[.string r.n, wv, tv, mv, kv, .string x.ty, .slice p5 x.v.length cap5] 44 (0, 0)) ∧ Fr (fun i => i = U) wq w9) := ⟨hw9, hf9⟩; clear hw9 hf9))
  go_end0
  refine ⟨rfl, fun i => if i < wa.heap.size then (if col i = 5 then 6 else col i) else 5, wv, tv, mv, kv, .slice p5 x.v.length cap5, ?_⟩
  have hu := HUW.out
  have hg := HG.out
  have hR := HCq.out.2.1
  have hf := HW9.out.2
  have hrow : ∀ (j : Nat), j = 1 ∨ j = 2 ∨ j = 3 ∨ j = 4 → ∀ i, Sc U (paint col wa.heap.size 6) j i → i < wq.heap.size → Sc U (fun i => if i < wa.heap.size then (if col i = 5 then 6 else col i) else 5) j i ∧ w9.heap[i]? = wq.heap[i]? := fun j hj i hi hl => by
    refine ⟨⟨hi.1, ?_⟩, hf.block i hl (by show ¬ i = U; have := hi.1; omega)⟩
    have h2 := hi.2
    unfold paint at h2
    by_cases c : i < wa.heap.size
    · rw [if_pos c] at h2
      show (if i < wa.heap.size then (if col i = 5 then 6 else col i) else 5) = j
      rw [if_pos c, if_neg (by omega)]
      exact h2
    · rw [if_neg c] at h2
      omega
  refine ⟨HCq.out.1.on hf.size (fun k hk => hf.block k (by have := blk_lt HCq.out.1.blk; omega) (by show ¬ k = U; omega)) ((hf.block g (blk_lt HCq.out.1.blk) (by show ¬ g = U; omega)).trans HCq.out.1.blk) HCq.out.1.pos HCq.out.1.opn, ⟨HW9.out.1, hR.r1.mono (hrow 1 (by omega)), hR.r2.mono (hrow 2 (by omega)), hR.r3.mono (hrow 3 (by omega)), hR.r4.mono (hrow 4 (by omega)), HHq.out.mono fun i hi hl => ⟨⟨by have h1 : wa.heap.size ≤ i := hi; omega, ?_⟩, hf.block i hl (by show ¬ i = U; have h1 : wa.heap.size ≤ i := hi; omega)⟩⟩, HCq.out.2.2.stored hf (.inl (.inr (Nat.le_refl _)))⟩
  show (if i < wa.heap.size then (if col i = 5 then 6 else col i) else 5) = 5
  rw [if_neg (by have h1 : wa.heap.size ≤ i := hi; omega)]
set_option maxHeartbeats 8000000 in
theorem clause_fail (w : World) (g : Nat) (V : Value) (L : List Tk) (s : St) (U : Nat) (col : Nat → Nat) (r : Rl) (wv tv mv kv ev : Value) (h : Env w g V L s) (hr : Rul w U col r wv tv mv kv ev) (hg : g < U) (h0 : s.o = 0) (hlen : r.w.length ≤ 700 ∧ r.t.length ≤ 700 ∧ r.m.length ≤ 700 ∧ r.k.length ≤ 700) (hb_T1 : see L [119, 104, 101, 110] s = false) (hb_T2 : see L [110, 111, 116] s = false) (hb_T3 : see L [109, 97, 110, 121] s = false) (hb_T4 : see L [101, 109, 105, 116] s = false) (hb_T5 : see L [119, 104, 101, 114, 101] s = false) (hty : r.e.ty.data.toList = []) : Calls Tryd.prog 85 #[rp g, .pointer (some ⟨U, 0, none⟩)] w (CLPost w g V L U r (fal L s)) := by
  have HG : Hid (g < U) := hg
  have HC0 : Hid (Cs w w g V L s U col r wv tv mv kv ev) := ⟨h, hr, Fr.refl _ _⟩
  have T1 : Hid (∀ W, Env W g V L s → Calls Tryd.prog 40 #[rp g, .string ⟨#[119, 104, 101, 110]⟩] W fun e w' => e = .returned (.bool false) ∧ Env w' g V L s ∧ Fr (fun i => i = g) W w') := fun W hW => by
    have := takes_any W g V L s [119, 104, 101, 110] hW
    unfold tks at this
    rw [hb_T1] at this
    exact this
  have T2 : Hid (∀ W, Env W g V L s → Calls Tryd.prog 40 #[rp g, .string ⟨#[110, 111, 116]⟩] W fun e w' => e = .returned (.bool false) ∧ Env w' g V L s ∧ Fr (fun i => i = g) W w') := fun W hW => by
    have := takes_any W g V L s [110, 111, 116] hW
    unfold tks at this
    rw [hb_T2] at this
    exact this
  have T3 : Hid (∀ W, Env W g V L s → Calls Tryd.prog 40 #[rp g, .string ⟨#[109, 97, 110, 121]⟩] W fun e w' => e = .returned (.bool false) ∧ Env w' g V L s ∧ Fr (fun i => i = g) W w') := fun W hW => by
    have := takes_any W g V L s [109, 97, 110, 121] hW
    unfold tks at this
    rw [hb_T3] at this
    exact this
  have T4 : Hid (∀ W, Env W g V L s → Calls Tryd.prog 40 #[rp g, .string ⟨#[101, 109, 105, 116]⟩] W fun e w' => e = .returned (.bool false) ∧ Env w' g V L s ∧ Fr (fun i => i = g) W w') := fun W hW => by
    have := takes_any W g V L s [101, 109, 105, 116] hW
    unfold tks at this
    rw [hb_T4] at this
    exact this
  have T5 : Hid (∀ W, Env W g V L s → Calls Tryd.prog 40 #[rp g, .string ⟨#[119, 104, 101, 114, 101]⟩] W fun e w' => e = .returned (.bool false) ∧ Env w' g V L s ∧ Fr (fun i => i = g) W w') := fun W hW => by
    have := takes_any W g V L s [119, 104, 101, 114, 101] hW
    unfold tks at this
    rw [hb_T5] at this
    exact this
  have hq1 : (r.e.ty.toList == []) = true := by rw [Lib.toList_data]; simpa using hty
  have hq2 : (r.e.ty.toList == (⟨#[]⟩ : ByteArray).toList) = true := by rw [Lib.toList_data, Lib.toList_data]; simpa using hty
  have HCE : Hid (∀ W col, Rul W U col r wv tv mv kv ev → W.cell? ⟨U, 5, none⟩ = some (.string r.e.ty)) := fun W col hW => by rw [cell_of_blk hW.blk]; rfl
  clear h hr hg h0 hlen hb_T1 hb_T2 hb_T3 hb_T4 hb_T5 hty
  go_enter Tryd.func85, Tryd.ntmps85
  go_wp2_with (first
      | (go_at_call_of 40 (Value.string ⟨#[119, 104, 101, 110]⟩); refine (T1.out _ HC0.out.1).mono ?_; rintro e w1 ⟨rfl, he_, hf_⟩; have HC1 : Hid (Cs w w1 g V L s U col r wv tv mv kv ev) := HC0.out.call he_ hf_ HG.out; clear he_ hf_)
      | (go_at_call_of 40 (Value.string ⟨#[110, 111, 116]⟩); refine (T2.out _ HC1.out.1).mono ?_; rintro e w2 ⟨rfl, he_, hf_⟩; have HC2 : Hid (Cs w w2 g V L s U col r wv tv mv kv ev) := HC1.out.call he_ hf_ HG.out; clear he_ hf_)
      | (go_at_call_of 40 (Value.string ⟨#[109, 97, 110, 121]⟩); refine (T3.out _ HC2.out.1).mono ?_; rintro e w3 ⟨rfl, he_, hf_⟩; have HC3 : Hid (Cs w w3 g V L s U col r wv tv mv kv ev) := HC2.out.call he_ hf_ HG.out; clear he_ hf_; have cE3 := HCE.out _ _ HC3.out.2.1)
      | (go_at_call_of 40 (Value.string ⟨#[101, 109, 105, 116]⟩); refine (T4.out _ HC3.out.1).mono ?_; rintro e w4 ⟨rfl, he_, hf_⟩; have HC4 : Hid (Cs w w4 g V L s U col r wv tv mv kv ev) := HC3.out.call he_ hf_ HG.out; clear he_ hf_)
      | (go_at_call_of 40 (Value.string ⟨#[119, 104, 101, 114, 101]⟩); refine (T5.out _ HC4.out.1).mono ?_; rintro e w5 ⟨rfl, he_, hf_⟩; have HC5 : Hid (Cs w w5 g V L s U col r wv tv mv kv ev) := HC4.out.call he_ hf_ HG.out; clear he_ hf_)
      | (go_at_call 43; refine (fail_any _ g V L s HC5.out.1).mono ?_; rintro e w9 ⟨rfl, he9, hf9⟩; have HC9 : Hid (Cs w w9 g V L (fal L s) U col r wv tv mv kv ev) := HC5.out.call he9 hf9 HG.out; clear he9 hf9))
  go_end0
  exact ⟨rfl, _, _, _, _, _, _, HC9.out⟩
set_option maxHeartbeats 8000000 in
theorem clause_fail2 (w : World) (g : Nat) (V : Value) (L : List Tk) (s : St) (U : Nat) (col : Nat → Nat) (r : Rl) (wv tv mv kv ev : Value) (h : Env w g V L s) (hr : Rul w U col r wv tv mv kv ev) (hg : g < U) (h0 : s.o = 0) (hlen : r.w.length ≤ 700 ∧ r.t.length ≤ 700 ∧ r.m.length ≤ 700 ∧ r.k.length ≤ 700) (hb_T1 : see L [119, 104, 101, 110] s = false) (hb_T2 : see L [110, 111, 116] s = false) (hb_T3 : see L [109, 97, 110, 121] s = false) (hb_T5 : see L [119, 104, 101, 114, 101] s = false) (hty : ¬ r.e.ty.data.toList = []) : Calls Tryd.prog 85 #[rp g, .pointer (some ⟨U, 0, none⟩)] w (CLPost w g V L U r (fal L s)) := by
  have HG : Hid (g < U) := hg
  have HC0 : Hid (Cs w w g V L s U col r wv tv mv kv ev) := ⟨h, hr, Fr.refl _ _⟩
  have T1 : Hid (∀ W, Env W g V L s → Calls Tryd.prog 40 #[rp g, .string ⟨#[119, 104, 101, 110]⟩] W fun e w' => e = .returned (.bool false) ∧ Env w' g V L s ∧ Fr (fun i => i = g) W w') := fun W hW => by
    have := takes_any W g V L s [119, 104, 101, 110] hW
    unfold tks at this
    rw [hb_T1] at this
    exact this
  have T2 : Hid (∀ W, Env W g V L s → Calls Tryd.prog 40 #[rp g, .string ⟨#[110, 111, 116]⟩] W fun e w' => e = .returned (.bool false) ∧ Env w' g V L s ∧ Fr (fun i => i = g) W w') := fun W hW => by
    have := takes_any W g V L s [110, 111, 116] hW
    unfold tks at this
    rw [hb_T2] at this
    exact this
  have T3 : Hid (∀ W, Env W g V L s → Calls Tryd.prog 40 #[rp g, .string ⟨#[109, 97, 110, 121]⟩] W fun e w' => e = .returned (.bool false) ∧ Env w' g V L s ∧ Fr (fun i => i = g) W w') := fun W hW => by
    have := takes_any W g V L s [109, 97, 110, 121] hW
    unfold tks at this
    rw [hb_T3] at this
    exact this
  have T5 : Hid (∀ W, Env W g V L s → Calls Tryd.prog 40 #[rp g, .string ⟨#[119, 104, 101, 114, 101]⟩] W fun e w' => e = .returned (.bool false) ∧ Env w' g V L s ∧ Fr (fun i => i = g) W w') := fun W hW => by
    have := takes_any W g V L s [119, 104, 101, 114, 101] hW
    unfold tks at this
    rw [hb_T5] at this
    exact this
  have hq1 : (r.e.ty.toList == []) = false := by rw [Lib.toList_data]; simpa using hty
  have hq2 : (r.e.ty.toList == (⟨#[]⟩ : ByteArray).toList) = false := by rw [Lib.toList_data, Lib.toList_data]; simpa using hty
  have HCE : Hid (∀ W col, Rul W U col r wv tv mv kv ev → W.cell? ⟨U, 5, none⟩ = some (.string r.e.ty)) := fun W col hW => by rw [cell_of_blk hW.blk]; rfl
  clear h hr hg h0 hlen hb_T1 hb_T2 hb_T3 hb_T5 hty
  go_enter Tryd.func85, Tryd.ntmps85
  go_wp2_with (first
      | (go_at_call_of 40 (Value.string ⟨#[119, 104, 101, 110]⟩); refine (T1.out _ HC0.out.1).mono ?_; rintro e w1 ⟨rfl, he_, hf_⟩; have HC1 : Hid (Cs w w1 g V L s U col r wv tv mv kv ev) := HC0.out.call he_ hf_ HG.out; clear he_ hf_)
      | (go_at_call_of 40 (Value.string ⟨#[110, 111, 116]⟩); refine (T2.out _ HC1.out.1).mono ?_; rintro e w2 ⟨rfl, he_, hf_⟩; have HC2 : Hid (Cs w w2 g V L s U col r wv tv mv kv ev) := HC1.out.call he_ hf_ HG.out; clear he_ hf_)
      | (go_at_call_of 40 (Value.string ⟨#[109, 97, 110, 121]⟩); refine (T3.out _ HC2.out.1).mono ?_; rintro e w3 ⟨rfl, he_, hf_⟩; have HC3 : Hid (Cs w w3 g V L s U col r wv tv mv kv ev) := HC2.out.call he_ hf_ HG.out; clear he_ hf_; have cE3 := HCE.out _ _ HC3.out.2.1)
      | (go_at_call_of 40 (Value.string ⟨#[119, 104, 101, 114, 101]⟩); refine (T5.out _ HC3.out.1).mono ?_; rintro e w4 ⟨rfl, he_, hf_⟩; have HC4 : Hid (Cs w w4 g V L s U col r wv tv mv kv ev) := HC3.out.call he_ hf_ HG.out; clear he_ hf_)
      | (go_at_call 43; refine (fail_any _ g V L s HC4.out.1).mono ?_; rintro e w9 ⟨rfl, he9, hf9⟩; have HC9 : Hid (Cs w w9 g V L (fal L s) U col r wv tv mv kv ev) := HC4.out.call he9 hf9 HG.out; clear he9 hf9))
  go_end0
  exact ⟨rfl, _, _, _, _, _, _, HC9.out⟩
end Go.Proofs.YtnlmkdncifijlaaDoor
namespace Go.Proofs.YtnlmkdncifijlaaDoor
open Go.ChangeShapes Go.WideShapes Go.ChangeAt Go.RowKit Go.Maps
set_option linter.unusedVariables false
set_option linter.unusedSimpArgs false
set_option maxRecDepth 20000
theorem clause_any (w : World) (g : Nat) (V : Value) (L : List Tk) (s : St) (U : Nat) (col : Nat → Nat) (r : Rl) (wv tv mv kv ev : Value) (h : Env w g V L s) (hr : Rul w U col r wv tv mv kv ev) (hg : g < U) (h0 : s.o = 0) (hlen : r.w.length ≤ 700 ∧ r.t.length ≤ 700 ∧ r.m.length ≤ 700 ∧ r.k.length ≤ 700) : Calls Tryd.prog 85 #[rp g, .pointer (some ⟨U, 0, none⟩)] w (CLPost w g V L U (cla L r s).1 (cla L r s).2) := by
  unfold cla
  cases h1 : see L [119, 104, 101, 110] s
  · simp only [Bool.false_eq_true, if_false]
    cases h2 : see L [110, 111, 116] s
    · simp only [Bool.false_eq_true, if_false]
      cases h3 : see L [109, 97, 110, 121] s
      · simp only [Bool.false_eq_true, if_false]
        by_cases ht : r.e.ty.data.toList = []
        · cases h4 : see L [101, 109, 105, 116] s
          · rw [if_neg (by rintro ⟨_, c⟩; cases c)]
            cases h5 : see L [119, 104, 101, 114, 101] s
            · simp only [Bool.false_eq_true, if_false]
              exact clause_fail w g V L s U col r wv tv mv kv ev h hr hg h0 hlen h1 h2 h3 h4 h5 ht
            · simp only [if_true]
              exact clause_where w g V L s U col r wv tv mv kv ev h hr hg h0 hlen h1 h2 h3 h4 h5 ht
          · rw [if_pos ⟨ht, rfl⟩]
            exact clause_emit w g V L s U col r wv tv mv kv ev h hr hg h0 hlen h1 h2 h3 h4 ht
        · rw [if_neg (by rintro ⟨c, _⟩; exact ht c)]
          cases h5 : see L [119, 104, 101, 114, 101] s
          · simp only [Bool.false_eq_true, if_false]
            exact clause_fail2 w g V L s U col r wv tv mv kv ev h hr hg h0 hlen h1 h2 h3 h5 ht
          · simp only [if_true]
            exact clause_where2 w g V L s U col r wv tv mv kv ev h hr hg h0 hlen h1 h2 h3 h5 ht
      · simp only [if_true]
        exact clause_many w g V L s U col r wv tv mv kv ev h hr hg h0 hlen h1 h2 h3
    · simp only [if_true]
      exact clause_not w g V L s U col r wv tv mv kv ev h hr hg h0 hlen h1 h2
  · simp only [if_true]
    exact clause_when w g V L s U col r wv tv mv kv ev h hr hg h0 hlen h1
theorem cla_g (L : List Tk) (r : Rl) (s : St) (h0 : s.o = 0) : s.i ≤ (cla L r s).2.i ∧ (cla L r s).2.o = s.o ∧ (cla L r s).1.w.length + (cla L r s).1.t.length + (cla L r s).1.m.length + (cla L r s).1.k.length ≤ r.w.length + r.t.length + r.m.length + r.k.length + ((cla L r s).2.i - s.i) := by
  have e1 : s.adv.i = s.i + 1 := rfl
  have e2 : s.adv.o = s.o := rfl
  have a := whn_g L s.adv h0
  have b := pat_g L s.adv h0
  have c := mny_g L s.adv h0
  have d := emt_g L s.adv
  have e := lnk_g L s.adv
  have f := fal_i L s
  unfold cla
  split
  · simp only [List.length_append, List.length_singleton]; omega
  · split
    · simp only [List.length_append, List.length_singleton]; omega
    · split
      · simp only [List.length_append, List.length_singleton]; omega
      · split
        · simp only; omega
        · split
          · simp only [List.length_append, List.length_singleton]; omega
          · simp only; omega
end Go.Proofs.YtnlmkdncifijlaaDoor
