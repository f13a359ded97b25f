/-
  What binds more stands deeper: the condition that a text holds, two conditions side by side, the walk.
-/
import Derived.Test.YtngbobnodecloaaDoorD2
import Derived.Deep.RegionWith
import Derived.Deep.CutRange
import Derived.Deep.RegionLaw
namespace Go.Proofs.YtngbobnodecloaaDoor
open Go.ChangeShapes Go.WideShapes Go.ChangeAt Go.RowKit Go.Maps
set_option linter.unusedVariables false
set_option linter.unusedSimpArgs false
set_option maxRecDepth 20000
theorem ret2_loc {P : Program} {fn : Func} {p a' : Tmp} {ty : TypeId} {a : Act} {w : World} {Q : Ending → World → Prop} (R : Nat) (cs : List Value) (T : TypeId) (d : TypeDesc) (u : Value) (hb : w.heap[R]? = some (.cells cs.toArray T (0, 0))) (h : fn.results = #[.cell p ty, .tmp a']) (hd : a.defers = [])
    (hp : a.tmps.getD p undef = .pointer (some ⟨R, 0, none⟩)) (hu : P.underlying ty = some d) (hr : d.isRow = true) (hi : (P.info? ty).map (·.size) = some cs.length) (h1 : a.tmps.getD a' undef = u) (hq : Q (.returned (.tuple #[.agg cs.toArray, u])) w) : bodyPost P fn Q .ret a w := by
  subst h1
  have hp' : a.tmps[p]?.getD undef = .pointer (some ⟨R, 0, none⟩) := by simpa using hp
  exact bodyPost_ret (by simp [results, h, hp', asAddr, run_loadVar_mid w R 0 ty cs d (range_blk hb) hu hr hi]) hd hq
set_option maxHeartbeats 4000000 in
theorem parsed_of (S : ByteArray) (l : List UInt8) (hS : S = txt l) (ts : List Tk) (h : cutF 200 (skd l) = some ts) (hl : l.length ≤ 3000) (ht : ts.length < 700) (ht0 : 0 < ts.length) (b : Bk) (i : Nat) (hp : prs ts = (b, i, 0)) (w : World) (hB : Tbs w) :
    Calls Tryd.prog 30 #[.string S] w fun e w' => ∃ p1 c1 p2 c2, e = .returned (.tuple #[.agg #[.slice p1 b.t.length c1, .slice p2 b.r.length c2], .int .i64 0]) ∧ HoldsL w' (fun i => w.heap.size ≤ i) (encB b) [.slice p1 b.t.length c1, .slice p2 b.r.length c2] ∧ Below w.heap.size w w' := by
  have HC : Hid (∀ W, Marks W → Calls Tryd.prog 18 #[.string S] W fun e w' => ∃ p cap, e = .returned (.tuple #[.slice p ts.length cap, .int .i64 0, .int .i64 0]) ∧ TokensAt w' (.slice p ts.length cap) ts ∧ Below W.heap.size W w') := fun W hW => cut_of S l hS ts h hl ht W hW
  have HPA : Hid (∀ W V, TokensAt W V ts → Tbs W → Calls Tryd.prog 11 #[V] W (APost W (b, i, 0))) := fun W V hT hW => by
    have := parse_any W V ts hT (toks_low hT ht0) hW
    rw [hp] at this
    exact this
  have HB : Hid (Tbs w) := hB
  obtain ⟨m, hm⟩ : ∃ m, ts.length = m := ⟨_, rfl⟩
  simp only [hm] at HC
  have HW0 : Hid ((w.alloc (.cells #[.slice none 0 0, .slice none 0 0] 27)).heap[w.heap.size]? = some (.cells #[.slice none 0 0, .slice none 0 0] 27 (0, 0))) := heap_alloc_new _ _
  unfold APost at HPA
  simp only at HPA
  clear hB h hl ht ht0 hp hS hm
  go_enter Tryd.func30, Tryd.ntmps30
  go_wp2_with (first
    | (go_at_call 18; refine (HC.out _ (HB.out.below (below_new _ _)).mr).mono ?_; rintro e w1 ⟨p1, cap1, rfl, ht1, hb1⟩; have HT1 : Hid (TokensAt w1 (.slice p1 m cap1) ts) := ht1; have HB1 : Hid (Below w.heap.size w w1) := below_trans (below_new _ _) hb1 (by { simp }); have HR1 : Hid (w1.heap[w.heap.size]? = some (.cells #[.slice none 0 0, .slice none 0 0] 27 (0, 0))) := (hb1.block _ (by { simp })).trans HW0.out; clear ht1 hb1)
    | (go_at_call 11; refine (HPA.out _ _ HT1.out (HB.out.below HB1.out)).mono ?_; rintro e w2 ⟨q1, d1, q2, d2, rfl, hh2, hb2⟩; have HB2 : Hid (Below w.heap.size w w2) := below_trans HB1.out hb2 HB1.out.size; have HR2 : Hid (∀ o, (w2.alloc o).heap[w.heap.size]? = some (.cells #[.slice none 0 0, .slice none 0 0] 27 (0, 0))) := fun o => (Below.heap_alloc _ _ _ (Nat.lt_of_lt_of_le (blk_lt HR1.out) hb2.size)).trans ((hb2.block _ (blk_lt HR1.out)).trans HR1.out); have HH2 : Hid (HoldsL w2 (fun i => w.heap.size + 1 ≤ i) (encB b) [.slice q1 b.t.length d1, .slice q2 b.r.length d2]) := hh2.low (by { have := blk_lt HR1.out; omega }); clear hh2 hb2)
    | (refine wp_st (by rfl) 27 _ _ (by rfl) w.heap.size 0 [.slice none 0 0, .slice none 0 0] 27 (.agg #[.slice q1 b.t.length d1, .slice q2 b.r.length d2]) [.slice q1 b.t.length d1, .slice q2 b.r.length d2] (by rfl) (by rfl) (by rfl) (HR2.out _) (Nat.le_of_ble_eq_true rfl) (by kernel_rfl) (by rfl) ?_; intro w9 hw9 hf9; have HW9 : Hid (w9.heap[w.heap.size]? = some (.cells #[.slice q1 b.t.length d1, .slice q2 b.r.length d2] 27 (0, 0)) ∧ Below w.heap.size w w9 ∧ HoldsL w9 (fun i => w.heap.size ≤ i) (encB b) [.slice q1 b.t.length d1, .slice q2 b.r.length d2]) := ⟨hw9, ((Fr.of_below (X := fun _ => False) (HB2.out.alloc HB2.out.size _)).stored hf9 (.inr (Nat.le_refl _))).below, (HH2.out.on ((Fr.refl _ _).alloc _)).mono (fun i hi hl => ⟨by { have h1 : w.heap.size + 1 ≤ i := hi; show w.heap.size ≤ i; omega }, hf9.block i hl (by { have h1 : w.heap.size + 1 ≤ i := hi; show ¬ i = w.heap.size; omega })⟩)⟩; clear hw9 hf9))
  refine ret2_loc w.heap.size [.slice q1 b.t.length d1, .slice q2 b.r.length d2] 27 _ (.int .i64 0) HW9.out.1 rfl rfl (by rfl) Tryd.underlying27 rfl (by kernel_rfl) (by rfl) ?_
  exact ⟨q1, d1, q2, d2, rfl, HW9.out.2.2, HW9.out.2.1⟩
theorem Holds.only {w : World} {S : Nat → Prop} {e z : Nat} {v : Value} {d : List Dat} (h : Holds w S (.row e z [d]) v) : ∃ gb cap xs, v = .slice (some ⟨gb, 0, none⟩) 1 cap ∧ S gb ∧ gb < w.heap.size ∧ w.rangeAt gb 0 xs ∧ HoldsL w S d xs := by
  cases h with
  | row _ _ _ _ xs h1 h2 h3 h4 =>
    have hc := h1
    rcases h1.2 with ⟨_, h5⟩ | ⟨gb, cap, cur, rfl, _⟩
    · simp at h5
    · refine ⟨gb, cap, xs, rfl, h2 gb rfl, (own_block_some hc rfl).2, fun j u hu => ?_, ?_⟩
      · have := hc.cells (g := gb) rfl j u hu
        rw [Addr.add_mid] at this
        exact this
      · have e : [d].flatten = d := by simp
        rw [e] at h3
        refine ⟨h3, fun k hk => ?_⟩
        have h6 := h4 k (by rw [e]; exact hk)
        simpa [e] using h6
theorem encP_cells {w : World} {S : Nat → Prop} {t : Pt} {vs : List Value} (h : HoldsL w S (encP t) vs) : ∃ p cap, vs = ptC t.va t.ty t.c.k (.slice p t.c.sb.length cap) t.c.l t.c.r t.w t.n ∧ Holds w S (.row 44 14 t.c.sb) (.slice p t.c.sb.length cap) := by
  obtain ⟨v0, r0, rfl, h0, h⟩ := h.one
  obtain ⟨v1, r1, rfl, h1, h⟩ := h.one
  obtain ⟨us, rs, rfl, h2, h3⟩ := h.split
  obtain ⟨p, cap, rfl, h4⟩ := encC_cells h2
  obtain ⟨v2, r2, rfl, h5, h3⟩ := h3.one
  obtain ⟨v3, r3, rfl, h6, h3⟩ := h3.one
  rw [lit_out h0, lit_out h1, lit_out h5, lit_out h6, h3.none]
  exact ⟨p, cap, rfl, h4⟩

def preT : List UInt8 := [114, 117, 108, 101, 32, 114, 32, 123, 32, 119, 104, 101, 110, 32, 120, 32, 58, 32, 116, 32, 91, 32]
def sufT : List UInt8 := [32, 93, 32, 59, 32, 125]
set_option maxHeartbeats 4000000 in
theorem condition_of (s : ByteArray) (x : List UInt8) (hs : s = txt x) (hx : x.length ≤ 100) (ts : List Tk) (h : cutF 200 (skd (preT ++ x ++ sufT)) = some ts) (ht : ts.length < 700) (ht0 : 0 < ts.length) (tl : List Tp) (r : Rl) (pt : Pt) (i : Nat) (hp : prs ts = (⟨tl, [r]⟩, i, 0)) (hw : r.w = [pt]) (w : World) (hB : Tbs w) :
    Calls Tryd.prog 16 #[.string s] w fun e w' => ∃ p cap, e = .returned (.tuple #[cnV pt.c.k (.slice p pt.c.sb.length cap) pt.c.l pt.c.r, .bool true]) ∧ Holds w' (fun i => w.heap.size ≤ i) (.row 44 14 pt.c.sb) (.slice p pt.c.sb.length cap) ∧ Below w.heap.size w w' := by
  have HP : Hid (∀ W, Tbs W → Calls Tryd.prog 30 #[.string (((⟨#[114, 117, 108, 101, 32, 114, 32, 123, 32, 119, 104, 101, 110, 32, 120, 32, 58, 32, 116, 32, 91, 32]⟩ : ByteArray) ++ s) ++ (⟨#[32, 93, 32, 59, 32, 125]⟩ : ByteArray))] W fun e w' => ∃ p1 c1 gr c2 gw cw p5 c5, e = .returned (.tuple #[.agg #[.slice p1 tl.length c1, .slice (some ⟨gr, 0, none⟩) 1 c2], .int .i64 0]) ∧ W.heap.size ≤ gr ∧ gr < w'.heap.size ∧ w'.cell? ⟨gr, 1, none⟩ = some (.slice (some ⟨gw, 0, none⟩) 1 cw) ∧ gw < w'.heap.size ∧ w'.rangeAt gw 2 (cnC pt.c.k (.slice p5 pt.c.sb.length c5) pt.c.l pt.c.r) ∧ Holds w' (fun i => W.heap.size ≤ i) (.row 44 14 pt.c.sb) (.slice p5 pt.c.sb.length c5) ∧ Below W.heap.size W w') := fun W hW => by
    refine (parsed_of _ (preT ++ x ++ sufT) ?_ ts h ?_ ht ht0 ⟨tl, [r]⟩ i hp W hW).mono ?_
    · rw [hs, ← txt_app, ← txt_app]; rfl
    · simp [preT, sufT]; omega
    rintro e w' ⟨p1, c1, p2, c2, rfl, hh, hb⟩
    obtain ⟨_, hh2⟩ := hh.head
    obtain ⟨hr, _⟩ := hh2.head
    obtain ⟨gr, capr, xs, e1, g1, g2, g3, g4⟩ := Holds.only (d := encR r) hr
    simp only [Value.slice.injEq] at e1
    obtain ⟨rfl, _, rfl⟩ := e1
    obtain ⟨v0, r0, rfl, h0, g5⟩ := g4.one
    obtain ⟨v1, r1, rfl, h1, g6⟩ := g5.one
    rw [hw] at h1
    obtain ⟨gw, capw, ys, rfl, k1, k2, k3, k4⟩ := Holds.only (d := encP pt) h1
    obtain ⟨p5, c5, rfl, k5⟩ := encP_cells k4
    have q1 := g3 1 (.slice (some ⟨gw, 0, none⟩) 1 capw) rfl
    refine ⟨p1, c1, gr, c2, gw, capw, p5, c5, rfl, g1, g2, by simpa using q1, k2, ?_, k5, hb⟩
    intro j u hu
    have q2 := k3 (2 + j) u (by
      have hj := (List.getElem?_eq_some_iff.1 hu).1
      have : (ptC pt.va pt.ty pt.c.k (.slice p5 pt.c.sb.length c5) pt.c.l pt.c.r pt.w pt.n)[2 + j]? = (cnC pt.c.k (.slice p5 pt.c.sb.length c5) pt.c.l pt.c.r ++ [.int .i64 pt.w, .int .i64 pt.n])[j]? := by
        rw [Nat.add_comm]; rfl
      rw [this, List.getElem?_append_left hj]
      exact hu)
    simpa using q2
  have hss : s.size ≤ 100 := by rw [hs, txt_size]; exact hx
  have HB : Hid (Tbs w) := hB
  have HW0 : Hid ((w.alloc (.cells cm0.toArray 44)).heap[w.heap.size]? = some (.cells cm0.toArray 44 (0, 0))) := heap_alloc_new _ _
  obtain ⟨c, hc⟩ : ∃ c, pt.c = c := ⟨_, rfl⟩
  rw [hc] at HP ⊢
  obtain ⟨ck, csb, cl, cr⟩ := c
  obtain ⟨n1, hn1⟩ : ∃ n1, csb.length = n1 := ⟨_, rfl⟩
  simp only [hn1] at HP ⊢
  clear hs hx h ht ht0 hp hw hB hc hn1
  go_enter Tryd.func16, Tryd.ntmps16
  go_wp2_with (first
    | (go_at_call 30; refine (HP.out _ (HB.out.below (below_new _ _))).mono ?_; rintro e w1 ⟨p1, c1, gr, c2, gw, cw, p5, c5, rfl, hg1, hg2, hq1, hg3, hq2, hh1, hb1⟩; have HB1 : Hid (Below w.heap.size w w1) := below_trans (below_new _ _) hb1 (by { simp }); have HR1 : Hid (∀ o, (w1.alloc o).heap[w.heap.size]? = some (.cells cm0.toArray 44 (0, 0))) := fun o => (Below.heap_alloc _ _ _ (Nat.lt_of_lt_of_le (by { simp }) hb1.size)).trans ((hb1.block _ (by { simp })).trans HW0.out); have qa : ∀ o, (w1.alloc o).cell? ⟨gr, 1, none⟩ = some (.slice (some ⟨gw, 0, none⟩) 1 cw) := fun o => (World.cell?_alloc_past _ _ _ hg2).trans hq1; have HQ2 : Hid (∀ o, (w1.alloc o).rangeAt gw 2 (cnC ck (.slice p5 n1 c5) cl cr)) := fun o => World.rangeAt_alloc hq2 o; have HH1 : Hid (Holds w1 (fun i => w.heap.size + 1 ≤ i) (.row 44 14 csb) (.slice p5 n1 c5)) := hh1.low (by { simp }); clear hg1 hg2 hq1 hg3 hq2 hh1 hb1)
    | (refine wpList_load_mid (by rfl) 44 _ (by rfl) gw 2 (by rfl) (cnC ck (.slice p5 n1 c5) cl cr) _ (HQ2.out _) Tryd.underlying44 rfl (by kernel_rfl) ?_)
    | (refine wp_st (by rfl) 44 _ _ (by rfl) w.heap.size 0 cm0 44 (cnV ck (.slice p5 n1 c5) cl cr) (cnC ck (.slice p5 n1 c5) cl cr) (by rfl) (by rfl) (by rfl) (HR1.out _) (Nat.le_of_ble_eq_true rfl) (by kernel_rfl) (by rfl) ?_; intro w9 hw9 hf9; have HW9 : Hid (w9.heap[w.heap.size]? = some (.cells (cnC ck (.slice p5 n1 c5) cl cr).toArray 44 (0, 0)) ∧ Below w.heap.size w w9 ∧ Holds w9 (fun i => w.heap.size ≤ i) (.row 44 14 csb) (.slice p5 n1 c5)) := ⟨hw9, ((Fr.of_below (X := fun _ => False) (HB1.out.alloc HB1.out.size _)).stored hf9 (.inr (Nat.le_refl _))).below, (HH1.out.on ((Fr.refl _ _).alloc _)).mono (fun i hi hl => ⟨by { have h1 : w.heap.size + 1 ≤ i := hi; show w.heap.size ≤ i; omega }, hf9.block i hl (by { have h1 : w.heap.size + 1 ≤ i := hi; show ¬ i = w.heap.size; omega })⟩)⟩; clear hw9 hf9))
  refine ret2_loc w.heap.size (cnC ck (.slice p5 n1 c5) cl cr) 44 _ (.bool true) HW9.out.1 rfl rfl (by rfl) Tryd.underlying44 rfl (by kernel_rfl) (by rfl) ?_
  exact ⟨p5, c5, rfl, HW9.out.2.2, HW9.out.2.1⟩

/-- A condition whose parts are conditions, n deep at most. -/
def Wf : Nat → Cn → Prop
  | 0, c => c.sb = []
  | n + 1, c => ∃ cs : List Cn, c.sb = cs.map encC ∧ ∀ x ∈ cs, Wf n x
theorem encC_len (c : Cn) : (encC c).length = 14 := rfl
theorem HoldsL.drop {w : World} {S : Nat → Prop} : ∀ (k : Nat) {ds : List Dat} {vs : List Value}, HoldsL w S ds vs → HoldsL w S (ds.drop k) (vs.drop k)
  | 0, ds, vs, h => by simpa using h
  | k + 1, [], vs, h => by rw [h.none]; simpa using HoldsL.nil w S
  | k + 1, d :: ds, vs, h => by
    obtain ⟨v, r, rfl, _, h2⟩ := HoldsL.one h
    simpa using h2.drop k
theorem flat_drop : ∀ (cs : List Cn) (k : Nat) (hk : k < cs.length), (cs.map encC).flatten.drop (k * 14) = encC cs[k] ++ ((cs.drop (k + 1)).map encC).flatten
  | c :: r, 0, _ => by simp
  | c :: r, k + 1, hk => by
    have ih := flat_drop r k (by simpa using hk)
    simp only [List.map_cons, List.flatten_cons, List.getElem_cons_succ, List.drop_succ_cons]
    rw [show (k + 1) * 14 = 14 + k * 14 by omega, ← List.drop_drop, List.drop_left' (encC_len c)]
    exact ih
theorem row_at {w : World} {S : Nat → Prop} {v : Value} {cs : List Cn} (h : Holds w S (.row 44 14 (cs.map encC)) v) (h0 : 0 < cs.length) : ∃ ga cap, v = .slice (some ⟨ga, 0, none⟩) cs.length cap ∧ cs.length ≤ cap ∧ cap ≤ maxLen ∧ ga < w.heap.size ∧ ∀ k (hk : k < cs.length), ∃ p c, w.rangeAt ga (k * 14) (cnC cs[k].k (.slice p cs[k].sb.length c) cs[k].l cs[k].r) ∧ Holds w S (.row 44 14 cs[k].sb) (.slice p cs[k].sb.length c) := by
  cases h with
  | row _ _ _ _ xs h1 h2 h3 h4 =>
    have hc := h1
    rw [List.length_map] at h1
    rcases h1.2 with ⟨_, h5⟩ | ⟨ga, cap, cur, rfl, _, _, hn, hx, _⟩
    · omega
    · refine ⟨ga, cap, rfl, hn, hx, (own_block_some hc rfl).2, fun k hk => ?_⟩
      have hl : HoldsL w S (cs.map encC).flatten xs := ⟨h3, h4⟩
      have hd := hl.drop (k * 14)
      rw [flat_drop cs k hk] at hd
      obtain ⟨us, rs, e, q1, q2⟩ := hd.split
      obtain ⟨p, c, rfl, q3⟩ := encC_cells q1
      refine ⟨p, c, fun j u hu => ?_, q3⟩
      have hj : j < 14 := (List.getElem?_eq_some_iff.1 hu).1
      have h9 : xs[k * 14 + j]? = some u := by
        rw [← List.getElem?_drop, e, List.getElem?_append_left (by simpa using hj)]
        exact hu
      have := hc.cells (g := ga) rfl (k * 14 + j) u h9
      rw [Addr.add_mid] at this
      simpa using this
theorem cells14 {w : World} {g o : Nat} {k : Int} {v : Value} {l r : Opd} (h : w.rangeAt g o (cnC k v l r)) : w.cell? ⟨g, o, none⟩ = some (.int .i64 k) ∧ w.cell? ⟨g, o + 1, none⟩ = some v ∧ w.cell? ⟨g, o + 2, none⟩ = some (.int .i64 l.k) ∧ w.cell? ⟨g, o + 3, none⟩ = some (.int .i64 l.vk) ∧ w.cell? ⟨g, o + 4, none⟩ = some (.int .i64 l.vi) ∧ w.cell? ⟨g, o + 5, none⟩ = some (.string l.vt) ∧ w.cell? ⟨g, o + 6, none⟩ = some (.string l.va) ∧ w.cell? ⟨g, o + 7, none⟩ = some (.string l.fd) ∧ w.cell? ⟨g, o + 8, none⟩ = some (.int .i64 r.k) ∧ w.cell? ⟨g, o + 9, none⟩ = some (.int .i64 r.vk) ∧ w.cell? ⟨g, o + 10, none⟩ = some (.int .i64 r.vi) ∧ w.cell? ⟨g, o + 11, none⟩ = some (.string r.vt) ∧ w.cell? ⟨g, o + 12, none⟩ = some (.string r.va) ∧ w.cell? ⟨g, o + 13, none⟩ = some (.string r.fd) :=
  ⟨h 0 _ rfl, h 1 _ rfl, h 2 _ rfl, h 3 _ rfl, h 4 _ rfl, h 5 _ rfl, h 6 _ rfl, h 7 _ rfl, h 8 _ rfl, h 9 _ rfl, h 10 _ rfl, h 11 _ rfl, h 12 _ rfl, h 13 _ rfl⟩
theorem step_call2 {ops : Array Oper} {o : Oper} {a : Act} {w : World} {K : Act → World → Prop} {Q : Exit → Act → World → Prop} {E : Prop} (f : FuncId) (he : ∀ args w, (callFunc f args).run Tryd.prog w = .ok (.enter f args) w) (hgd : o.guard = none) (s x : Operand) (ts : Array TypeId) (ho : o.op = .call { callee := .value (.func f), args := #[s, x], argTypes := ts }) (u1 u2 : Value) (h1 : a.eval s = u1) (h2 : a.eval x = u2)
    (R : Ending → World → Prop) (hc : Calls Tryd.prog f #[u1, u2] w R) (h : ∀ e w', R e w' → ∃ v, e = .returned v ∧ K (a.put o.dst v) w') :
    if Region.wanted o (yielded ops a.tmps) = true then Oper.wp Tryd.prog o a w K Q else E := by
  have hw : Region.wanted o (yielded ops a.tmps) = true := by simp [Region.wanted, hgd]
  rw [if_pos hw]
  unfold Oper.wp execOp
  have hf : a.eval (.func f) = Value.func (Fn.func f) #[] #[] := rfl
  simp [ho, resolve, invoke, Deferred.ofValue, hf, h1, h2, he]
  refine hc.mono ?_
  intro e w' hr
  obtain ⟨v, rfl, hk⟩ := h e w' hr
  exact hk
theorem ent_same : ∀ args w, (callFunc 17 args).run Tryd.prog w = .ok (.enter 17 args) w := enters_of Tryd.func17 (by kernel_rfl) rfl
/-- What is said of two conditions that are the same. -/
def SameC (c : Cn) : Prop := ∀ (w : World) (S T : Nat → Prop) (pa pb : Option Addr) (ca cb : Nat), Holds w S (.row 44 14 c.sb) (.slice pa c.sb.length ca) → Holds w T (.row 44 14 c.sb) (.slice pb c.sb.length cb) →
    Calls Tryd.prog 17 #[cnV c.k (.slice pa c.sb.length ca) c.l c.r, cnV c.k (.slice pb c.sb.length cb) c.l c.r] w fun e w' => e = .returned (.bool true) ∧ Below w.heap.size w w'
set_option maxHeartbeats 8000000 in
theorem same_step (c : Cn) (cs : List Cn) (hsb : c.sb = cs.map encC) (IH : ∀ x ∈ cs, SameC x) (h700 : cs.length ≤ 1000) : SameC c := by
  intro w S T pa pb ca cb ha hb
  obtain ⟨ck, csb, ⟨lk, lvk, lvi, lvt, lva, lfd⟩, ⟨rk, rvk, rvi, rvt, rva, rfd⟩⟩ := c
  simp only at hsb ha hb ⊢
  subst hsb
  rw [List.length_map] at ha hb ⊢
  obtain ⟨n, hn⟩ : ∃ n, cs.length = n := ⟨_, rfl⟩
  have HN : Hid (cs.length = n) := hn
  rw [hn] at ha hb h700 ⊢
  have HA : Hid (Holds w S (.row 44 14 (cs.map encC)) (.slice pa n ca)) := ha
  have HB : Hid (Holds w T (.row 44 14 (cs.map encC)) (.slice pb n cb)) := hb
  have HIH : Hid (∀ x ∈ cs, SameC x) := IH
  have hn7 : (n : Int) ≤ 1000 := by omega
  clear ha hb IH h700 hn
  go_enter Tryd.func17, Tryd.ntmps17
  go_wp2_with fail
  obtain ⟨W0, hW0⟩ : ∃ W0, (w.alloc (.cells (cnC ck (.slice pa n ca) ⟨lk, lvk, lvi, lvt, lva, lfd⟩ ⟨rk, rvk, rvi, rvt, rva, rfd⟩).toArray 44)).alloc (.cells (cnC ck (.slice pb n cb) ⟨lk, lvk, lvi, lvt, lva, lfd⟩ ⟨rk, rvk, rvi, rvt, rva, rfd⟩).toArray 44) = W0 := ⟨_, rfl⟩
  have h1 : W0.heap[w.heap.size + 1]? = some (.cells (cnC ck (.slice pb n cb) ⟨lk, lvk, lvi, lvt, lva, lfd⟩ ⟨rk, rvk, rvi, rvt, rva, rfd⟩).toArray 44 (0, 0)) := by rw [← hW0]; exact heap_2 _ _ _
  have h2 : W0.heap[w.heap.size]? = some (.cells (cnC ck (.slice pa n ca) ⟨lk, lvk, lvi, lvt, lva, lfd⟩ ⟨rk, rvk, rvi, rvt, rva, rfd⟩).toArray 44 (0, 0)) := by rw [← hW0]; exact (Below.heap_alloc _ _ _ (by simp)).trans (heap_alloc_new _ _)
  have h3 : Below w.heap.size w W0 := by rw [← hW0]; exact ((Below.refl _ _).alloc (Nat.le_refl _) _).alloc (by simp) _
  have h4 : W0.heap.size = w.heap.size + 2 := by rw [← hW0]; simp
  change Go.Code.wp _ _ _ _ ((w.alloc (.cells (cnC ck (.slice pa n ca) ⟨lk, lvk, lvi, lvt, lva, lfd⟩ ⟨rk, rvk, rvi, rvt, rva, rfd⟩).toArray 44)).alloc (.cells (cnC ck (.slice pb n cb) ⟨lk, lvk, lvi, lvt, lva, lfd⟩ ⟨rk, rvk, rvi, rvt, rva, rfd⟩).toArray 44))
  rw [hW0]
  have H3 : Hid (Below w.heap.size w W0 ∧ W0.heap.size = w.heap.size + 2) := ⟨h3, h4⟩
  have H12 : Hid (W0.heap[w.heap.size + 1]? = some (.cells (cnC ck (.slice pb n cb) ⟨lk, lvk, lvi, lvt, lva, lfd⟩ ⟨rk, rvk, rvi, rvt, rva, rfd⟩).toArray 44 (0, 0)) ∧ W0.heap[w.heap.size]? = some (.cells (cnC ck (.slice pa n ca) ⟨lk, lvk, lvi, lvt, lva, lfd⟩ ⟨rk, rvk, rvi, rvt, rva, rfd⟩).toArray 44 (0, 0))) := ⟨h1, h2⟩
  clear h1 h2 h3 h4 hW0
  go_loopw [5] (fun i wr => ∃ k : Nat, k ≤ n ∧ i = .int .i64 (k : Nat) ∧ Below W0.heap.size W0 wr) (fun i _ => n + 1 - (intOf i).toNat)
  case atStart => exact ⟨0, by omega, rfl, Below.refl _ _⟩
  case round =>
    obtain ⟨k, hk, rfl, hBr⟩ := hrel
    have HBR : Hid (Below W0.heap.size W0 wr) := hBr
    have cA : wr.cell? ⟨w.heap.size, 1, none⟩ = some (.slice pa n ca) := by rw [cell_of_blk ((hBr.block _ (by have := H3.out.2; omega)).trans H12.out.2)]; rfl
    have cB : wr.cell? ⟨w.heap.size + 1, 1, none⟩ = some (.slice pb n cb) := by rw [cell_of_blk ((hBr.block _ (by have := H3.out.2; omega)).trans H12.out.1)]; rfl
    by_cases hlt : k < n
    · have hkc : k < cs.length := by have := HN.out; omega
      obtain ⟨ga, cap1, e1, u1, u2, u3, u4⟩ := row_at HA.out (by omega)
      obtain ⟨gb, cap2, e2, v1, v2, v3, v4⟩ := row_at HB.out (by omega)
      simp only [Value.slice.injEq] at e1 e2
      obtain ⟨rfl, z1, rfl⟩ := e1
      obtain ⟨rfl, z2, rfl⟩ := e2
      clear z1 z2
      obtain ⟨p1, c1, r1, o1⟩ := u4 k hkc
      obtain ⟨p2, c2, r2, o2⟩ := v4 k hkc
      have hwr : Below w.heap.size w wr := below_trans H3.out.1 hBr (by have := H3.out.2; omega)
      have hr1 : wr.rangeAt ga (k * 14) (cnC cs[k].k (.slice p1 cs[k].sb.length c1) cs[k].l cs[k].r) := fun j u hu => (hwr.cell (p := ⟨ga, k * 14 + j, none⟩) u3).trans (r1 j u hu)
      have hr2 : wr.rangeAt gb (k * 14) (cnC cs[k].k (.slice p2 cs[k].sb.length c2) cs[k].l cs[k].r) := fun j u hu => (hwr.cell (p := ⟨gb, k * 14 + j, none⟩) v3).trans (r2 j u hu)
      have hcall := HIH.out cs[k] (List.getElem_mem hkc) wr.drew S T p1 p2 c1 c2 (o1.mono fun i hi hl => ⟨hi, hwr.block i hl⟩) (o2.mono fun i hi hl => ⟨hi, hwr.block i hl⟩)
      obtain ⟨d, hd⟩ : ∃ d, cs[k] = d := ⟨_, rfl⟩
      rw [hd] at hr1 hr2 hcall
      obtain ⟨dk, dsb, ⟨xk, xvk, xvi, xvt, xva, xfd⟩, ⟨yk, yvk, yvi, yvt, yva, yfd⟩⟩ := d
      obtain ⟨m, hm⟩ : ∃ m, dsb.length = m := ⟨_, rfl⟩
      simp only [hm] at hr1 hr2 hcall
      have HCL : Hid (Calls Tryd.prog 17 #[cnV dk (.slice p1 m c1) ⟨xk, xvk, xvi, xvt, xva, xfd⟩ ⟨yk, yvk, yvi, yvt, yva, yfd⟩, cnV dk (.slice p2 m c2) ⟨xk, xvk, xvi, xvt, xva, xfd⟩ ⟨yk, yvk, yvi, yvt, yva, yfd⟩] wr.drew fun e w' => e = .returned (.bool true) ∧ Below wr.drew.heap.size wr.drew w') := hcall
      obtain ⟨a0, a1, a2, a3, a4, a5, a6, a7, a8, a9, a10, a11, a12, a13⟩ := cells14 hr1
      obtain ⟨b0, b1, b2, b3, b4, b5, b6, b7, b8, b9, b10, b11, b12, b13⟩ := cells14 hr2
      have i1 : (0 : Int) ≤ (k : Int) := by omega
      have i2 : (k : Int) < (n : Int) := by omega
      clear hcall hr1 hr2 hd hm r1 r2 o1 o2 u1 u2 u3 u4 v1 v2 v3 v4 hwr hBr hkc
      go_wp2_with fail
      go_region_law (refine step_call2 17 ent_same (by rfl) _ _ _ (by rfl) (cnV dk (.slice p1 m c1) ⟨xk, xvk, xvi, xvt, xva, xfd⟩ ⟨yk, yvk, yvi, yvt, yva, yfd⟩) (cnV dk (.slice p2 m c2) ⟨xk, xvk, xvi, xvt, xva, xfd⟩ ⟨yk, yvk, yvi, yvt, yva, yfd⟩) (by rfl) (by rfl) _ HCL.out ?_; rintro e w5 ⟨rfl, hb5⟩; refine ⟨_, rfl, ?_⟩; have HB5 : Hid (Below W0.heap.size W0 w5) := below_trans HBR.out.drew hb5 HBR.out.drew.size; clear hb5)
      all_goals
        go_wp2_with fail
        go_roundw
        case rel => exact ⟨k + 1, by omega, by go_num, HB5.out⟩
        case measure => simp [intOf]; omega
    · obtain rfl : k = n := by omega
      go_wp2_with fail
      go_ret
      exact ⟨rfl, below_trans H3.out.1 HBR.out (by have := H3.out.2; omega)⟩

def decO : List Dat → Option Opd
  | [.lit (.int .i64 a), .lit (.int .i64 b), .lit (.int .i64 c), .lit (.string x), .lit (.string y), .lit (.string z)] => some ⟨a, b, c, x, y, z⟩
  | _ => none
theorem decO_enc {d : List Dat} {o : Opd} (h : decO d = some o) : d = encO o := by
  unfold decO at h
  split at h
  · simp only [Option.some.injEq] at h
    subst h
    rfl
  · cases h
def decC : List Dat → Option Cn
  | .lit (.int .i64 k) :: .row e z sb :: rest => if e = 44 ∧ z = 14 then (match decO (rest.take 6), decO (rest.drop 6) with | some l, some r => some ⟨k, sb, l, r⟩ | _, _ => none) else none
  | _ => none
theorem decC_enc {d : List Dat} {c : Cn} (h : decC d = some c) : d = encC c := by
  unfold decC at h
  split at h
  · rename_i k e z sb rest
    split at h
    · rename_i hc
      split at h
      · rename_i l r h1 h2
        simp only [Option.some.injEq] at h
        subst h
        obtain ⟨rfl, rfl⟩ := hc
        show _ :: _ :: rest = _
        rw [← List.take_append_drop 6 rest, decO_enc h1, decO_enc h2]
        rfl
      · cases h
    · cases h
  · cases h
def wfB : Nat → Cn → Bool
  | 0, c => c.sb.isEmpty
  | n + 1, c => decide (c.sb.length ≤ 1000) && c.sb.all fun d => match decC d with | some x => wfB n x | none => false
theorem wfB_same : ∀ (n : Nat) (c : Cn), wfB n c = true → SameC c
  | 0, c, h => same_step c [] (by unfold wfB at h; simpa using h) (fun x hx => by cases hx) (by simp)
  | n + 1, c, h => by
    unfold wfB at h
    rw [Bool.and_eq_true, decide_eq_true_eq, List.all_eq_true] at h
    have key : ∀ l : List (List Dat), (∀ d ∈ l, (match decC d with | some x => wfB n x | none => false) = true) → ∃ cs : List Cn, l = cs.map encC ∧ ∀ x ∈ cs, SameC x := by
      intro l
      induction l with
      | nil => exact fun _ => ⟨[], rfl, fun x hx => by cases hx⟩
      | cons d r ih =>
        intro hl
        obtain ⟨cs, e1, e2⟩ := ih fun y hy => hl y (by simp [hy])
        have hd := hl d (by simp)
        split at hd
        · rename_i x hx
          refine ⟨x :: cs, by rw [decC_enc hx, e1]; rfl, fun y hy => ?_⟩
          rcases List.mem_cons.1 hy with rfl | hy
          · exact wfB_same n y hd
          · exact e2 y hy
        · cases hd
    obtain ⟨cs, e1, e2⟩ := key c.sb h.2
    refine same_step c cs e1 e2 ?_
    have := h.1
    rw [e1, List.length_map] at this
    exact this
/-- The condition that a text holds. -/
def condOf (x : List UInt8) : Option Cn :=
  match cutF 200 (skd (preT ++ x ++ sufT)) with
  | none => none
  | some ts => if 0 < ts.length ∧ ts.length < 700 ∧ x.length ≤ 100 then
      (match prs ts with
       | (⟨_, [r]⟩, _, e) => if e = 0 then (match r.w with | [pt] => some pt.c | _ => none) else none
       | _ => none) else none
theorem cond_at (s : ByteArray) (x : List UInt8) (hs : s = txt x) (c : Cn) (h : condOf x = some c) (w : World) (hB : Tbs w) :
    Calls Tryd.prog 16 #[.string s] w fun e w' => ∃ p cap, e = .returned (.tuple #[cnV c.k (.slice p c.sb.length cap) c.l c.r, .bool true]) ∧ Holds w' (fun i => w.heap.size ≤ i) (.row 44 14 c.sb) (.slice p c.sb.length cap) ∧ Below w.heap.size w w' := by
  unfold condOf at h
  split at h
  · cases h
  · rename_i ts ht
    split at h
    · rename_i hc
      split at h
      · rename_i tl r i e hp
        split at h
        · rename_i he
          subst he
          split at h
          · rename_i pt hw
            simp only [Option.some.injEq] at h
            subst h
            exact condition_of s x hs hc.2.2 ts ht hc.2.1 hc.1 tl r pt i hp hw w hB
          · cases h
        · cases h
      · cases h
    · cases h
set_option maxHeartbeats 4000000 in
theorem same_k (k k' : Int) (hk : k ≠ k') (u v : Value) (l r l' r' : Opd) (pa pb : Option Addr) (na ca nb cb : Nat) (hu : u = .slice pa na ca) (hv : v = .slice pb nb cb) (w : World) :
    Calls Tryd.prog 17 #[cnV k u l r, cnV k' v l' r'] w fun e w' => e = .returned (.bool false) ∧ Below w.heap.size w w' := by
  subst hu hv
  have hb : (k != k') = true := by simpa using hk
  clear hk
  obtain ⟨a1, a2, a3, a4, a5, a6⟩ := l
  obtain ⟨b1, b2, b3, b4, b5, b6⟩ := r
  obtain ⟨c1, c2, c3, c4, c5, c6⟩ := l'
  obtain ⟨d1, d2, d3, d4, d5, d6⟩ := r'
  go_enter Tryd.func17, Tryd.ntmps17
  go_wp2_with fail
  go_ret
  exact ⟨rfl, ((Below.refl _ _).alloc (Nat.le_refl _) _).alloc (by simp) _⟩
set_option maxHeartbeats 4000000 in
theorem same_l (k a1 a2 a3 : Int) (a4 a5 x y : ByteArray) (hxy : (x.toList == y.toList) = false) (r r' : Opd) (pa pb : Option Addr) (na ca nb cb : Nat) (w : World) :
    Calls Tryd.prog 17 #[cnV k (.slice pa na ca) ⟨a1, a2, a3, a4, a5, x⟩ r, cnV k (.slice pb nb cb) ⟨a1, a2, a3, a4, a5, y⟩ r'] w fun e w' => e = .returned (.bool false) ∧ Below w.heap.size w w' := by
  obtain ⟨b1, b2, b3, b4, b5, b6⟩ := r
  obtain ⟨d1, d2, d3, d4, d5, d6⟩ := r'
  go_enter Tryd.func17, Tryd.ntmps17
  go_wp2_with fail
  go_ret
  exact ⟨rfl, ((Below.refl _ _).alloc (Nat.le_refl _) _).alloc (by simp) _⟩
def bt0 : Nat → List UInt8
  | 0 => [97, 32, 61, 32, 49, 32, 111, 114, 32, 98, 32, 61, 32, 50, 32, 97, 110, 100, 32, 99, 32, 61, 32, 51]
  | 1 => [110, 111, 116, 32, 97, 32, 61, 32, 49, 32, 97, 110, 100, 32, 98, 32, 61, 32, 50]
  | 2 => [110, 111, 116, 32, 110, 111, 116, 32, 97, 32, 61, 32, 49, 32, 111, 114, 32, 98, 32, 61, 32, 49]
  | 3 => [97, 32, 62, 32, 49]
  | 4 => [97, 32, 62, 61, 32, 45, 50]
  | 5 => [40, 40, 97, 32, 61, 32, 49, 41, 41]
  | _ => [120, 46, 97, 32, 61, 32, 34, 115, 34, 32, 97, 110, 100, 32, 98, 32, 47, 61, 32, 50, 32, 111, 114, 32, 99, 32, 60, 32, 51]
def bt1 : Nat → List UInt8
  | 0 => [97, 32, 61, 32, 49, 32, 111, 114, 32, 40, 98, 32, 61, 32, 50, 32, 97, 110, 100, 32, 99, 32, 61, 32, 51, 41]
  | 1 => [40, 110, 111, 116, 32, 40, 97, 32, 61, 32, 49, 41, 41, 32, 97, 110, 100, 32, 98, 32, 61, 32, 50]
  | 2 => [40, 110, 111, 116, 32, 40, 110, 111, 116, 32, 97, 32, 61, 32, 49, 41, 41, 32, 111, 114, 32, 98, 32, 61, 32, 49]
  | 3 => [49, 32, 60, 32, 97]
  | 4 => [45, 50, 32, 60, 61, 32, 97]
  | 5 => [97, 32, 61, 32, 49]
  | _ => [40, 120, 46, 97, 32, 61, 32, 34, 115, 34, 32, 97, 110, 100, 32, 98, 32, 47, 61, 32, 50, 41, 32, 111, 114, 32, 40, 99, 32, 60, 32, 51, 41]
def other : List UInt8 := [122, 122, 32, 61, 32, 55, 55]
def eqB (a b : ByteArray) : Bool := decide (a.data.toList = b.data.toList)
theorem eqB_eq {a b : ByteArray} (h : eqB a b = true) : a = b := by
  have := of_decide_eq_true h
  rw [← txt_of a, ← txt_of b, this]
def eqO (a b : Opd) : Bool := decide (a.k = b.k) && decide (a.vk = b.vk) && decide (a.vi = b.vi) && eqB a.vt b.vt && eqB a.va b.va && eqB a.fd b.fd
theorem eqO_eq {a b : Opd} (h : eqO a b = true) : a = b := by
  unfold eqO at h
  simp only [Bool.and_eq_true, decide_eq_true_eq] at h
  obtain ⟨⟨⟨⟨⟨h1, h2⟩, h3⟩, h4⟩, h5⟩, h6⟩ := h
  obtain ⟨a1, a2, a3, a4, a5, a6⟩ := a
  obtain ⟨b1, b2, b3, b4, b5, b6⟩ := b
  simp only at h1 h2 h3 h4 h5 h6
  rw [h1, h2, h3, eqB_eq h4, eqB_eq h5, eqB_eq h6]
def eqL (f : Cn → Cn → Bool) : List (List Dat) → List (List Dat) → Bool
  | [], [] => true
  | d :: r, e :: t => (match decC d, decC e with | some x, some y => f x y | _, _ => false) && eqL f r t
  | _, _ => false
def eqC : Nat → Cn → Cn → Bool
  | 0, _, _ => false
  | n + 1, a, b => decide (a.k = b.k) && eqO a.l b.l && eqO a.r b.r && eqL (eqC n) a.sb b.sb
theorem eqL_eq {f : Cn → Cn → Bool} (hf : ∀ x y, f x y = true → x = y) : ∀ (r t : List (List Dat)), eqL f r t = true → r = t
  | [], [], _ => rfl
  | [], e :: t, h => by simp [eqL] at h
  | d :: r, [], h => by simp [eqL] at h
  | d :: r, e :: t, h => by
    rw [eqL, Bool.and_eq_true] at h
    have h1 := h.1
    split at h1
    · rename_i x y hx hy
      rw [decC_enc hx, decC_enc hy, hf x y h1, eqL_eq hf r t h.2]
    · cases h1
theorem eqC_eq : ∀ (n : Nat) (a b : Cn), eqC n a b = true → a = b
  | 0, a, b, h => by simp [eqC] at h
  | n + 1, a, b, h => by
    unfold eqC at h
    simp only [Bool.and_eq_true, decide_eq_true_eq] at h
    obtain ⟨⟨⟨h1, h2⟩, h3⟩, h4⟩ := h
    have h5 := eqL_eq (eqC_eq n) a.sb b.sb h4
    obtain ⟨ak, asb, al, ar⟩ := a
    obtain ⟨bk, bsb, bl, br⟩ := b
    simp only at h1 h2 h3 h5
    rw [h1, eqO_eq h2, eqO_eq h3, h5]
def bindOk (p : Nat) : Bool := match condOf (bt0 p), condOf (bt1 p) with | some a, some b => eqC 9 a b && wfB 9 a && decide (p = 5 ∨ a.k ≠ 4) | _, _ => false
theorem bind_all : ((List.range 7).all bindOk) = true := by kernel_rfl
theorem bind_at (p : Nat) (hp : p < 7) : ∃ c, condOf (bt0 p) = some c ∧ condOf (bt1 p) = some c ∧ SameC c ∧ (p = 5 ∨ c.k ≠ 4) := by
  have h := List.all_eq_true.1 bind_all p (by simpa using hp)
  unfold bindOk at h
  split at h
  · rename_i a b h1 h2
    simp only [Bool.and_eq_true, decide_eq_true_eq] at h
    refine ⟨a, h1, ?_, wfB_same 9 a h.1.2, h.2⟩
    rw [eqC_eq 9 a b h.1.1]
    exact h2
  · cases h
def isC (c d : Option Cn) : Bool := match c, d with | some a, some b => eqC 3 a b | _, _ => false
theorem isC_eq {c : Option Cn} {b : Cn} (h : isC c (some b) = true) : c = some b := by
  unfold isC at h
  split at h
  · rename_i x y e1 e2
    simp only [Option.some.injEq] at e2
    subst e2
    rw [eqC_eq 3 _ _ h]
  · cases h
theorem bind_5 : condOf (bt0 5) = some ⟨4, [], ⟨2, 0, 0, txt [], txt [], txt [97]⟩, ⟨1, 1, 1, txt [], txt [], txt []⟩⟩ := isC_eq (by kernel_rfl)
theorem bind_o : condOf other = some ⟨4, [], ⟨2, 0, 0, txt [], txt [], txt [122, 122]⟩, ⟨1, 1, 77, txt [], txt [], txt []⟩⟩ := isC_eq (by kernel_rfl)

def bO (j : Nat) : Obj := .cells #[.string (txt (bt0 j)), .string (txt (bt1 j))] 9
def Ly (w : World) : Nat → World
  | 0 => w
  | j + 1 => (Ly w j).alloc (bO j)
theorem ly_size (w : World) : ∀ j, (Ly w j).heap.size = w.heap.size + j
  | 0 => rfl
  | j + 1 => by
    show ((Ly w j).alloc (bO j)).heap.size = _
    simp [ly_size w j]
    omega
theorem ly_at (w : World) : ∀ (j k : Nat), k < j → (Ly w j).heap[w.heap.size + k]? = some (bO k)
  | j + 1, k, h => by
    show ((Ly w j).alloc (bO j)).heap[w.heap.size + k]? = _
    by_cases c : k = j
    · subst c
      have := heap_alloc_new (Ly w k) (bO k)
      rw [ly_size] at this
      exact this
    · rw [Below.heap_alloc _ _ _ (by rw [ly_size]; omega)]
      exact ly_at w j k (by omega)
theorem ly_below (w : World) : ∀ j, Below w.heap.size w (Ly w j)
  | 0 => Below.refl _ _
  | j + 1 => (ly_below w j).alloc (ly_below w j).size _
def outC (w : World) : Array Value := #[.slice (some ⟨w.heap.size, 0, none⟩) 2 2, .slice (some ⟨w.heap.size + 1, 0, none⟩) 2 2, .slice (some ⟨w.heap.size + 2, 0, none⟩) 2 2, .slice (some ⟨w.heap.size + 3, 0, none⟩) 2 2, .slice (some ⟨w.heap.size + 4, 0, none⟩) 2 2, .slice (some ⟨w.heap.size + 5, 0, none⟩) 2 2, .slice (some ⟨w.heap.size + 6, 0, none⟩) 2 2]
theorem outC_at (w : World) (p : Nat) (h : p < 7) : (outC w)[p]? = some (.slice (some ⟨w.heap.size + p, 0, none⟩) 2 2) := by
  match p, h with
  | 0, _ => rfl
  | 1, _ => rfl
  | 2, _ => rfl
  | 3, _ => rfl
  | 4, _ => rfl
  | 5, _ => rfl
  | 6, _ => rfl
def Lw (w : World) : World := (Ly w 7).alloc (.cells (outC w) 34)
theorem lw_facts (w : World) (p : Nat) (h : p < 7) : Below w.heap.size w (Lw w) ∧ (Lw w).cell? ⟨w.heap.size + 7, p, none⟩ = some (.slice (some ⟨w.heap.size + p, 0, none⟩) 2 2) ∧ (Lw w).cell? ⟨w.heap.size + p, 0, none⟩ = some (.string (txt (bt0 p))) ∧ (Lw w).cell? ⟨w.heap.size + p, 1, none⟩ = some (.string (txt (bt1 p))) ∧ w.heap.size + 8 ≤ (Lw w).heap.size := by
  have h1 : (Lw w).heap[w.heap.size + 7]? = some (.cells (outC w) 34 (0, 0)) := by
    have := heap_alloc_new (Ly w 7) (.cells (outC w) 34)
    rw [ly_size] at this
    exact this
  have h2 : (Lw w).heap[w.heap.size + p]? = some (.cells #[.string (txt (bt0 p)), .string (txt (bt1 p))] 9 (0, 0)) := (Below.heap_alloc _ _ _ (by rw [ly_size]; omega)).trans (ly_at w 7 p h)
  refine ⟨(ly_below w 7).alloc (ly_below w 7).size _, ?_, ?_, ?_, ?_⟩
  · rw [cell_of_blk h1]; exact outC_at w p h
  · rw [cell_of_blk h2]; rfl
  · rw [cell_of_blk h2]; rfl
  · show _ ≤ ((Ly w 7).alloc _).heap.size
    simp [ly_size]
theorem Holds.var {w w' : World} {S : Nat → Prop} {d : Dat} {v : Value} {o : Obj} (h : Holds w S d v) (hf : Fr (fun i => i = w.heap.size) (w.alloc o) w') : Holds w' S d v := h.mono fun i hi hl => ⟨hi, (hf.block i (by simp; omega) (by show ¬ i = w.heap.size; omega)).trans (Below.heap_alloc _ _ _ hl)⟩
theorem below_var {w w' : World} {o : Obj} (hf : Fr (fun i => i = w.heap.size) (w.alloc o) w') : Below w.heap.size w w' := (((Fr.refl (fun _ => False) w).alloc o).stored hf (.inr (Nat.le_refl _))).below
theorem Holds.bel {w w' : World} {S : Nat → Prop} {d : Dat} {v : Value} (h : Holds w S d v) (hb : Below w.heap.size w w') : Holds w' S d v := h.mono fun i hi hl => ⟨hi, hb.block i hl⟩
theorem blk14 {w : World} {g : Nat} {k : Int} {v : Value} {l r : Opd} {T : TypeId} (h : w.heap[g]? = some (.cells (cnC k v l r).toArray T (0, 0))) : w.cell? ⟨g, 0, none⟩ = some (.int .i64 k) ∧ w.cell? ⟨g, 1, none⟩ = some v ∧ w.cell? ⟨g, 2, none⟩ = some (.int .i64 l.k) ∧ w.cell? ⟨g, 3, none⟩ = some (.int .i64 l.vk) ∧ w.cell? ⟨g, 4, none⟩ = some (.int .i64 l.vi) ∧ w.cell? ⟨g, 5, none⟩ = some (.string l.vt) ∧ w.cell? ⟨g, 6, none⟩ = some (.string l.va) ∧ w.cell? ⟨g, 7, none⟩ = some (.string l.fd) ∧ w.cell? ⟨g, 8, none⟩ = some (.int .i64 r.k) ∧ w.cell? ⟨g, 9, none⟩ = some (.int .i64 r.vk) ∧ w.cell? ⟨g, 10, none⟩ = some (.int .i64 r.vi) ∧ w.cell? ⟨g, 11, none⟩ = some (.string r.vt) ∧ w.cell? ⟨g, 12, none⟩ = some (.string r.va) ∧ w.cell? ⟨g, 13, none⟩ = some (.string r.fd) := by
  refine ⟨?_, ?_, ?_, ?_, ?_, ?_, ?_, ?_, ?_, ?_, ?_, ?_, ?_, ?_⟩ <;> (rw [cell_of_blk h]; rfl)
set_option maxHeartbeats 8000000 in
theorem binds_walk (n : Int) (w : World) (hn : -9223372036854775808 ≤ n ∧ n ≤ 9223372036854775807) (hB : Tbs w) :
    Calls Tryd.prog 6 #[.int .i64 n] w fun e w' => e = .returned (.bool true) ∧ Below w.heap.size w w' := by
  obtain ⟨p, hp7, hp⟩ := picked_const n 7 7 (by rfl) hn (by omega) (by omega)
  have HP : Hid (∀ W, Calls Tryd.prog 15 #[.int .i64 n, .int .i64 7] W fun e w' => e = .returned (.int .i64 p) ∧ w' = W) := hp
  obtain ⟨c, q1, q2, q3, q4⟩ := bind_at p hp7
  have q5 : p = 5 → c = ⟨4, [], ⟨2, 0, 0, txt [], txt [], txt [97]⟩, ⟨1, 1, 1, txt [], txt [], txt []⟩⟩ := fun h5 => by
    subst h5
    rw [bind_5] at q1
    simpa using q1.symm
  obtain ⟨x0, hx0⟩ : ∃ x0, txt (bt0 p) = x0 := ⟨_, rfl⟩
  obtain ⟨x1, hx1⟩ : ∃ x1, txt (bt1 p) = x1 := ⟨_, rfl⟩
  have hlw := lw_facts w p hp7
  rw [hx0, hx1] at hlw
  have HC0 := fun W hW => cond_at x0 (bt0 p) hx0.symm c q1 W hW
  have HC1 := fun W hW => cond_at x1 (bt1 p) hx1.symm c q2 W hW
  have HC2 := fun W hW => cond_at ⟨#[122, 122, 32, 61, 32, 55, 55]⟩ other rfl _ bind_o W hW
  have HS := q3
  unfold SameC at HS
  have HD : ∀ W pa ca pb cb, Calls Tryd.prog 17 #[cnV c.k (.slice pa c.sb.length ca) c.l c.r, cnV 4 (.slice pb 0 cb) ⟨2, 0, 0, txt [], txt [], txt [122, 122]⟩ ⟨1, 1, 77, txt [], txt [], txt []⟩] W fun e w' => e = .returned (.bool false) ∧ Below W.heap.size W w' := fun W pa ca pb cb => by
    rcases q4 with h5 | h5
    · rw [q5 h5]
      exact same_l 4 2 0 0 (txt []) (txt []) (txt [97]) (txt [122, 122]) (by rw [Lib.toList_data, Lib.toList_data, txt_list, txt_list]; decide) _ _ pa pb _ _ _ _ W
    · exact same_k c.k 4 h5 _ _ _ _ _ _ pa pb _ _ _ _ rfl rfl W
  obtain ⟨ck, csb, ⟨lk, lvk, lvi, lvt, lva, lfd⟩, ⟨rk, rvk, rvi, rvt, rva, rfd⟩⟩ := c
  obtain ⟨m, hm⟩ : ∃ m, csb.length = m := ⟨_, rfl⟩
  simp only [hm] at HC0 HC1 HS HD
  have GC0 : Hid (∀ W, Tbs W → Calls Tryd.prog 16 #[.string x0] W fun e w' => ∃ p cap, e = .returned (.tuple #[cnV ck (.slice p m cap) ⟨lk, lvk, lvi, lvt, lva, lfd⟩ ⟨rk, rvk, rvi, rvt, rva, rfd⟩, .bool true]) ∧ Holds w' (fun i => W.heap.size ≤ i) (.row 44 14 csb) (.slice p m cap) ∧ Below W.heap.size W w') := HC0
  have GC1 : Hid (∀ W, Tbs W → Calls Tryd.prog 16 #[.string x1] W fun e w' => ∃ p cap, e = .returned (.tuple #[cnV ck (.slice p m cap) ⟨lk, lvk, lvi, lvt, lva, lfd⟩ ⟨rk, rvk, rvi, rvt, rva, rfd⟩, .bool true]) ∧ Holds w' (fun i => W.heap.size ≤ i) (.row 44 14 csb) (.slice p m cap) ∧ Below W.heap.size W w') := HC1
  have GC2 : Hid (∀ W, Tbs W → Calls Tryd.prog 16 #[.string ⟨#[122, 122, 32, 61, 32, 55, 55]⟩] W fun e w' => ∃ p cap, e = .returned (.tuple #[cnV 4 (.slice p 0 cap) ⟨2, 0, 0, txt [], txt [], txt [122, 122]⟩ ⟨1, 1, 77, txt [], txt [], txt []⟩, .bool true]) ∧ Holds w' (fun i => W.heap.size ≤ i) (.row 44 14 []) (.slice p 0 cap) ∧ Below W.heap.size W w') := HC2
  have GS : Hid (∀ (w : World) (S T : Nat → Prop) (pa pb : Option Addr) (ca cb : Nat), Holds w S (.row 44 14 csb) (.slice pa m ca) → Holds w T (.row 44 14 csb) (.slice pb m cb) → Calls Tryd.prog 17 #[cnV ck (.slice pa m ca) ⟨lk, lvk, lvi, lvt, lva, lfd⟩ ⟨rk, rvk, rvi, rvt, rva, rfd⟩, cnV ck (.slice pb m cb) ⟨lk, lvk, lvi, lvt, lva, lfd⟩ ⟨rk, rvk, rvi, rvt, rva, rfd⟩] w fun e w' => e = .returned (.bool true) ∧ Below w.heap.size w w') := HS
  have GD : Hid (∀ W pa ca pb cb, Calls Tryd.prog 17 #[cnV ck (.slice pa m ca) ⟨lk, lvk, lvi, lvt, lva, lfd⟩ ⟨rk, rvk, rvi, rvt, rva, rfd⟩, cnV 4 (.slice pb 0 cb) ⟨2, 0, 0, txt [], txt [], txt [122, 122]⟩ ⟨1, 1, 77, txt [], txt [], txt []⟩] W fun e w' => e = .returned (.bool false) ∧ Below W.heap.size W w') := HD
  have GL : Hid (Below w.heap.size w (Lw w) ∧ (Lw w).cell? ⟨w.heap.size + 7, p, none⟩ = some (.slice (some ⟨w.heap.size + p, 0, none⟩) 2 2) ∧ (Lw w).cell? ⟨w.heap.size + p, 0, none⟩ = some (.string x0) ∧ (Lw w).cell? ⟨w.heap.size + p, 1, none⟩ = some (.string x1) ∧ w.heap.size + 8 ≤ (Lw w).heap.size) := hlw
  have GB : Hid (Tbs w) := hB
  have G7 : Hid (p < 7) := hp7
  have i1 : (0 : Int) ≤ (p : Int) := by omega
  have i2 : (p : Int) < 7 := by omega
  clear hp q1 q2 q3 q4 q5 hx0 hx1 hlw HC0 HC1 HC2 HS HD hm hB hp7
  go_enter Tryd.func6, Tryd.ntmps6
  go_wp2_with (first
    | (go_at_call 15; refine (HP.out _).mono ?_; rintro e wq ⟨rfl, hq⟩; have hq2 : wq = Lw w := hq; clear hq; have f1 : wq.cell? ⟨w.heap.size + 7, p, none⟩ = some (.slice (some ⟨w.heap.size + p, 0, none⟩) 2 2) := by { rw [hq2]; exact GL.out.2.1 }; have f2 : wq.cell? ⟨w.heap.size + p, 0, none⟩ = some (.string x0) := by { rw [hq2]; exact GL.out.2.2.1 }; have HF3 : Hid (wq.cell? ⟨w.heap.size + p, 1, none⟩ = some (.string x1) ∧ Below w.heap.size w wq ∧ w.heap.size + 8 ≤ wq.heap.size ∧ wq.cell? ⟨w.heap.size + 7, p, none⟩ = some (.slice (some ⟨w.heap.size + p, 0, none⟩) 2 2)) := by { rw [hq2]; exact ⟨GL.out.2.2.2.1, GL.out.1, GL.out.2.2.2.2, GL.out.2.1⟩ }; clear hq2)
    | (go_at_call_of 16 (Value.string x0); refine (GC0.out _ (GB.out.below HF3.out.2.1)).mono ?_; rintro e w1 ⟨p1, c1, rfl, hh1, hb1⟩; have HB1 : Hid (Below wq.heap.size wq w1) := hb1; have HH1 : Hid (Holds w1 (fun i => wq.heap.size ≤ i) (.row 44 14 csb) (.slice p1 m c1)) := hh1; have HZ1 : Hid ((w1.alloc (.cells cm0.toArray 44)).heap[w1.heap.size]? = some (.cells cm0.toArray 44 (0, 0))) := heap_alloc_new _ _; clear hh1 hb1)
    | (refine wp_st (by rfl) 44 _ _ (by rfl) w1.heap.size 0 cm0 44 (cnV ck (.slice p1 m c1) ⟨lk, lvk, lvi, lvt, lva, lfd⟩ ⟨rk, rvk, rvi, rvt, rva, rfd⟩) (cnC ck (.slice p1 m c1) ⟨lk, lvk, lvi, lvt, lva, lfd⟩ ⟨rk, rvk, rvi, rvt, rva, rfd⟩) (by rfl) (by rfl) (by rfl) HZ1.out (Nat.le_of_ble_eq_true rfl) (by kernel_rfl) (by rfl) ?_; intro w1b hw9 hf9; have HE1 : Hid (w1b.heap[w1.heap.size]? = some (.cells (cnC ck (.slice p1 m c1) ⟨lk, lvk, lvi, lvt, lva, lfd⟩ ⟨rk, rvk, rvi, rvt, rva, rfd⟩).toArray 44 (0, 0))) := hw9; have HV1 : Hid (Below wq.heap.size wq w1b) := below_trans HB1.out (below_var hf9) HB1.out.size; have HD1 : Hid (Holds w1b (fun i => wq.heap.size ≤ i) (.row 44 14 csb) (.slice p1 m c1)) := HH1.out.var hf9; have g1 : w1b.cell? ⟨w.heap.size + 7, p, none⟩ = some (.slice (some ⟨w.heap.size + p, 0, none⟩) 2 2) := (HV1.out.cell (p := ⟨w.heap.size + 7, p, none⟩) (by { show w.heap.size + 7 < _; have := HF3.out.2.2.1; omega })).trans HF3.out.2.2.2; have g2 : w1b.cell? ⟨w.heap.size + p, 1, none⟩ = some (.string x1) := (HV1.out.cell (p := ⟨w.heap.size + p, 1, none⟩) (by { show w.heap.size + p < _; have := HF3.out.2.2.1; have := G7.out; omega })).trans HF3.out.1; have HW1 : Hid (Below w.heap.size w w1b) := below_trans HF3.out.2.1 HV1.out HF3.out.2.1.size; clear hw9 hf9)
    | (go_at_call_of 16 (Value.string x1); refine (GC1.out _ (GB.out.below HW1.out)).mono ?_; rintro e w2 ⟨p2, c2, rfl, hh2, hb2⟩; have HB2 : Hid (Below w1b.heap.size w1b w2) := hb2; have HH2 : Hid (Holds w2 (fun i => w1b.heap.size ≤ i) (.row 44 14 csb) (.slice p2 m c2)) := hh2; have HZ2 : Hid ((w2.alloc (.cells cm0.toArray 44)).heap[w2.heap.size]? = some (.cells cm0.toArray 44 (0, 0))) := heap_alloc_new _ _; clear hh2 hb2)
    | (refine wp_st (by rfl) 44 _ _ (by rfl) w2.heap.size 0 cm0 44 (cnV ck (.slice p2 m c2) ⟨lk, lvk, lvi, lvt, lva, lfd⟩ ⟨rk, rvk, rvi, rvt, rva, rfd⟩) (cnC ck (.slice p2 m c2) ⟨lk, lvk, lvi, lvt, lva, lfd⟩ ⟨rk, rvk, rvi, rvt, rva, rfd⟩) (by rfl) (by rfl) (by rfl) HZ2.out (Nat.le_of_ble_eq_true rfl) (by kernel_rfl) (by rfl) ?_; intro w2b hw9 hf9; have HE2 : Hid (w2b.heap[w2.heap.size]? = some (.cells (cnC ck (.slice p2 m c2) ⟨lk, lvk, lvi, lvt, lva, lfd⟩ ⟨rk, rvk, rvi, rvt, rva, rfd⟩).toArray 44 (0, 0))) := hw9; have HV2 : Hid (Below w1b.heap.size w1b w2b) := below_trans HB2.out (below_var hf9) HB2.out.size; have HD2 : Hid (Holds w2b (fun i => w1b.heap.size ≤ i) (.row 44 14 csb) (.slice p2 m c2)) := HH2.out.var hf9; have HW2 : Hid (Below w.heap.size w w2b) := below_trans HW1.out HV2.out HW1.out.size; clear hw9 hf9)
    | (go_at_call 16; refine (GC2.out _ (GB.out.below HW2.out)).mono ?_; rintro e w3 ⟨p3, c3, rfl, hh3, hb3⟩; have HB3 : Hid (Below w2b.heap.size w2b w3) := hb3; have HZ3 : Hid ((w3.alloc (.cells cm0.toArray 44)).heap[w3.heap.size]? = some (.cells cm0.toArray 44 (0, 0))) := heap_alloc_new _ _; clear hh3 hb3)
    | (refine wp_st (by rfl) 44 _ _ (by rfl) w3.heap.size 0 cm0 44 (cnV 4 (.slice p3 0 c3) ⟨2, 0, 0, txt [], txt [], txt [122, 122]⟩ ⟨1, 1, 77, txt [], txt [], txt []⟩) (cnC 4 (.slice p3 0 c3) ⟨2, 0, 0, txt [], txt [], txt [122, 122]⟩ ⟨1, 1, 77, txt [], txt [], txt []⟩) (by rfl) (by rfl) (by rfl) HZ3.out (Nat.le_of_ble_eq_true rfl) (by kernel_rfl) (by rfl) ?_; intro w3b hw9 hf9; have HE3 : Hid (w3b.heap[w3.heap.size]? = some (.cells (cnC 4 (.slice p3 0 c3) ⟨2, 0, 0, txt [], txt [], txt [122, 122]⟩ ⟨1, 1, 77, txt [], txt [], txt []⟩).toArray 44 (0, 0))) := hw9; have HV3 : Hid (Below w2b.heap.size w2b w3b) := below_trans HB3.out (below_var hf9) HB3.out.size; have HW3 : Hid (Below w.heap.size w w3b) := below_trans HW2.out HV3.out HW2.out.size; have HE2' : Hid (w3b.heap[w2.heap.size]? = some (.cells (cnC ck (.slice p2 m c2) ⟨lk, lvk, lvi, lvt, lva, lfd⟩ ⟨rk, rvk, rvi, rvt, rva, rfd⟩).toArray 44 (0, 0))) := (HV3.out.block _ (blk_lt HE2.out)).trans HE2.out; have HV13 : Hid (Below w1b.heap.size w1b w3b) := below_trans HV2.out HV3.out HV2.out.size; have HE1' : Hid (w3b.heap[w1.heap.size]? = some (.cells (cnC ck (.slice p1 m c1) ⟨lk, lvk, lvi, lvt, lva, lfd⟩ ⟨rk, rvk, rvi, rvt, rva, rfd⟩).toArray 44 (0, 0))) := (HV13.out.block _ (blk_lt HE1.out)).trans HE1.out; have HD1' : Hid (Holds w3b (fun i => wq.heap.size ≤ i) (.row 44 14 csb) (.slice p1 m c1)) := HD1.out.bel HV13.out; have HD2' : Hid (Holds w3b (fun i => w1b.heap.size ≤ i) (.row 44 14 csb) (.slice p2 m c2)) := HD2.out.bel HV3.out; obtain ⟨a0, a1, a2, a3, a4, a5, a6, a7, a8, a9, a10, a11, a12, a13⟩ := blk14 HE1'.out; obtain ⟨b0, b1, b2, b3, b4, b5, b6, b7, b8, b9, b10, b11, b12, b13⟩ := blk14 HE2'.out; clear hw9 hf9)
    | (go_at_call 17; have hw4' := HW4; refine (GD.out _ _ _ _ _).mono ?_; rintro e w5 ⟨rfl, hb5⟩; have HW5 : Hid (Below w.heap.size w w5) := below_trans HW4.out hb5 HW4.out.size; clear hb5)
    | (go_at_call 17; refine (GS.out _ _ _ _ _ _ _ HD1'.out HD2'.out).mono ?_; rintro e w4 ⟨rfl, hb4⟩; have HW4 : Hid (Below w.heap.size w w4) := below_trans HW3.out hb4 HW3.out.size; have HE14 : Hid (w4.heap[w1.heap.size]? = some (.cells (cnC ck (.slice p1 m c1) ⟨lk, lvk, lvi, lvt, lva, lfd⟩ ⟨rk, rvk, rvi, rvt, rva, rfd⟩).toArray 44 (0, 0))) := (hb4.block _ (blk_lt HE1'.out)).trans HE1'.out; have HE34 : Hid (w4.heap[w3.heap.size]? = some (.cells (cnC 4 (.slice p3 0 c3) ⟨2, 0, 0, txt [], txt [], txt [122, 122]⟩ ⟨1, 1, 77, txt [], txt [], txt []⟩).toArray 44 (0, 0))) := (hb4.block _ (blk_lt HE3.out)).trans HE3.out; obtain ⟨d0, d1, d2, d3, d4, d5, d6, d7, d8, d9, d10, d11, d12, d13⟩ := blk14 HE14.out; obtain ⟨f0, f1, f2, f3, f4, f5, f6, f7, f8, f9, f10, f11, f12, f13⟩ := blk14 HE34.out; clear hb4))
  go_ret
  exact ⟨ret_bool (by simp), HW5.out⟩
end Go.Proofs.YtngbobnodecloaaDoor
