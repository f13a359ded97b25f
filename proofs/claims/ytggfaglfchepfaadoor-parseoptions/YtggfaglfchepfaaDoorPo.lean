/-
  Each relation has its word; bounds are its own: the tokens of such a text, and the book that they are. Each relation has its word; bounds are its own: the walk. Each relation has its word; bounds are its own: the walk.
-/
import Derived.Test.YtggfaglfchepfaaDoorD2
import Derived.Test.YtggfaglfchepfaaDoorLB
import Derived.Deep.RegionWith
import Derived.Deep.CutRange
import Derived.BigRegion
import Derived.Deep.RegionHeld3
namespace Go.Proofs.YtggfaglfchepfaaDoor
open Go.ChangeShapes Go.WideShapes Go.ChangeAt Go.RowKit Go.Maps
set_option linter.unusedVariables false
set_option linter.unusedSimpArgs false
set_option maxRecDepth 20000
def wT (l : List UInt8) : Tk := ⟨1, txt l, 0⟩
def mT (l : List UInt8) : Tk := ⟨4, txt l, 0⟩
def nT (n : Nat) : Tk := ⟨2, txt [], n⟩
def rT (k : Nat) : Tk := wT (rll.getD k [])
def tA (k : Nat) : List Tk := [wT [114, 117, 108, 101], wT [114], mT [123], wT [119, 104, 101, 114, 101], wT [120], rT k, wT [111, 114], rT k, mT [40]]
def tB (k : Nat) : List Tk := [mT [41], wT [111, 114], rT k, mT [40]]
def tC : List Tk := [mT [44], wT [97, 110, 121], mT [41], wT [121], mT [59]]
def optT (k a b : Nat) : List Tk := tA k ++ ([nT a] ++ ([mT [44]] ++ ([nT b] ++ (tB k ++ ([nT a] ++ (tC ++ [mT [125]]))))))
theorem nT_ok (n : Nat) (h : n < 1000) : tchk (nT n) = 0 := by
  unfold tchk nT
  simp only [txt_list, if_true]
  rw [if_neg (by omega), if_neg (by simp), if_neg (by omega)]
theorem tA_ok (k : Nat) (hk : k < 13) : ∀ t ∈ tA k, tchk t = 0 := by
  have h : ((List.range 13).all fun k => (tA k).all fun t => decide (tchk t = 0)) = true := by kernel_rfl
  have h2 := List.all_eq_true.1 h k (by simpa using hk)
  intro t ht
  simpa using List.all_eq_true.1 h2 t ht
theorem tB_ok (k : Nat) (hk : k < 13) : ∀ t ∈ tB k, tchk t = 0 := by
  have h : ((List.range 13).all fun k => (tB k).all fun t => decide (tchk t = 0)) = true := by kernel_rfl
  have h2 := List.all_eq_true.1 h k (by simpa using hk)
  intro t ht
  simpa using List.all_eq_true.1 h2 t ht
theorem tC_ok : ∀ t ∈ tC, tchk t = 0 := by
  have h : (tC.all fun t => decide (tchk t = 0)) = true := by kernel_rfl
  intro t ht
  simpa using List.all_eq_true.1 h t ht
theorem t44_ok : tchk (mT [44]) = 0 := by kernel_rfl
theorem t125_ok : tchk (mT [125]) = 0 := by kernel_rfl
theorem one_ok {t : Tk} (h : tchk t = 0) : ∀ x ∈ [t], tchk x = 0 := by
  intro x hx
  have : x = t := by simpa using hx
  rw [this]; exact h
theorem opt_ok (k a b : Nat) (hk : k < 13) (ha : a < 1000) (hb : b < 1000) : ∀ t ∈ optT k a b, tchk t = 0 := by
  intro t ht
  unfold optT at ht
  simp only [List.mem_append] at ht
  rcases ht with h | h | h | h | h | h | h | h
  · exact tA_ok k hk t h
  · exact one_ok (nT_ok a ha) t h
  · exact one_ok t44_ok t h
  · exact one_ok (nT_ok b hb) t h
  · exact tB_ok k hk t h
  · exact one_ok (nT_ok a ha) t h
  · exact tC_ok t h
  · exact one_ok t125_ok t h
/-- The text, piece by piece. -/
def optX (k a b : Nat) : List UInt8 := cat (tA k) ++ (cat [nT a] ++ (32 :: (cat [mT [44]] ++ (cat [nT b] ++ (32 :: (cat (tB k) ++ (cat [nT a] ++ (32 :: (cat tC ++ [125])))))))))
theorem rd_end : rd [125] = ⟨0, mT [125], 1⟩ := by kernel_rfl
theorem skd_end : skd [125] = [125] := by kernel_rfl
theorem run_end (N : Nat) : Run N (skd [125]) [mT [125]] 0 0 := by
  rw [skd_end]
  have := Run.step (N := N) [125] [] 0 0 (by simp) (by rw [rd_end]) (by rw [rd_end]; decide) (by rw [rd_end]; decide) (by rw [rd_end]; exact Run.done)
  rw [rd_end] at this
  exact this
theorem opt_run (N k a b : Nat) (hk : k < 13) (ha : a < 1000) (hb : b < 1000) : Run N (skd (optX k a b)) (optT k a b) 0 0 := by
  unfold optX optT
  refine run_cat (tA_ok k hk) ?_
  refine run_cat (one_ok (nT_ok a ha)) ?_
  rw [skd_32]
  refine run_cat (one_ok t44_ok) ?_
  refine run_cat (one_ok (nT_ok b hb)) ?_
  rw [skd_32]
  refine run_cat (tB_ok k hk) ?_
  refine run_cat (one_ok (nT_ok a ha)) ?_
  rw [skd_32]
  exact run_cat tC_ok (run_end N)
def optB (k a b : Nat) : Bk := ⟨[], [⟨txt [114], [], [], [], [⟨txt [120], [⟨(k : Int) + 1, 0, -1⟩, ⟨(k : Int) + 1, a, b⟩, ⟨(k : Int) + 1, a, -1⟩], txt [121]⟩], ⟨txt [], []⟩⟩]⟩
theorem opt_book0 (a b : Nat) : bok (optT 0 a b) = (optB 0 a b, ⟨23, 0, 0⟩) := by kernel_rfl
theorem opt_book1 (a b : Nat) : bok (optT 1 a b) = (optB 1 a b, ⟨23, 0, 0⟩) := by kernel_rfl
theorem opt_book2 (a b : Nat) : bok (optT 2 a b) = (optB 2 a b, ⟨23, 0, 0⟩) := by kernel_rfl
theorem opt_book3 (a b : Nat) : bok (optT 3 a b) = (optB 3 a b, ⟨23, 0, 0⟩) := by kernel_rfl
theorem opt_book4 (a b : Nat) : bok (optT 4 a b) = (optB 4 a b, ⟨23, 0, 0⟩) := by kernel_rfl
theorem opt_book5 (a b : Nat) : bok (optT 5 a b) = (optB 5 a b, ⟨23, 0, 0⟩) := by kernel_rfl
theorem opt_book6 (a b : Nat) : bok (optT 6 a b) = (optB 6 a b, ⟨23, 0, 0⟩) := by kernel_rfl
theorem opt_book7 (a b : Nat) : bok (optT 7 a b) = (optB 7 a b, ⟨23, 0, 0⟩) := by kernel_rfl
theorem opt_book8 (a b : Nat) : bok (optT 8 a b) = (optB 8 a b, ⟨23, 0, 0⟩) := by kernel_rfl
theorem opt_book9 (a b : Nat) : bok (optT 9 a b) = (optB 9 a b, ⟨23, 0, 0⟩) := by kernel_rfl
theorem opt_book10 (a b : Nat) : bok (optT 10 a b) = (optB 10 a b, ⟨23, 0, 0⟩) := by kernel_rfl
theorem opt_book11 (a b : Nat) : bok (optT 11 a b) = (optB 11 a b, ⟨23, 0, 0⟩) := by kernel_rfl
theorem opt_book12 (a b : Nat) : bok (optT 12 a b) = (optB 12 a b, ⟨23, 0, 0⟩) := by kernel_rfl
theorem opt_book (k a b : Nat) (hk : k < 13) : bok (optT k a b) = (optB k a b, ⟨23, 0, 0⟩) := by
  match k, hk with
  | 0, _ => exact opt_book0 a b
  | 1, _ => exact opt_book1 a b
  | 2, _ => exact opt_book2 a b
  | 3, _ => exact opt_book3 a b
  | 4, _ => exact opt_book4 a b
  | 5, _ => exact opt_book5 a b
  | 6, _ => exact opt_book6 a b
  | 7, _ => exact opt_book7 a b
  | 8, _ => exact opt_book8 a b
  | 9, _ => exact opt_book9 a b
  | 10, _ => exact opt_book10 a b
  | 11, _ => exact opt_book11 a b
  | 12, _ => exact opt_book12 a b
theorem opt_len (k a b : Nat) : (optT k a b).length = 23 := by rfl
theorem opt_prs (k a b : Nat) (hk : k < 13) (ha : a < 1000) (hb : b < 1000) : prs (optT k a b) = (optB k a b, 0, 0) := by
  unfold prs
  rw [if_neg (by rw [opt_len]; omega), tck_none _ 0 (opt_ok k a b hk ha hb), opt_book k a b hk]
  rfl
end Go.Proofs.YtggfaglfchepfaaDoor
namespace Go.Proofs.YtggfaglfchepfaaDoor
open Go.ChangeShapes Go.WideShapes Go.ChangeAt Go.RowKit Go.Maps
set_option linter.unusedVariables false
set_option linter.unusedSimpArgs false
set_option maxRecDepth 20000
theorem ret2_loc {P : Program} {fn : Func} {p a' : Tmp} {ty : TypeId} {a : Act} {w : World} {Q : Ending → World → Prop} (R : Nat) (cs : List Value) (T : TypeId) (d : TypeDesc) (u : Value) (hb : w.heap[R]? = some (.cells cs.toArray T (0, 0))) (h : fn.results = #[.cell p ty, .tmp a']) (hd : a.defers = [])
    (hp : a.tmps.getD p undef = .pointer (some ⟨R, 0, none⟩)) (hu : P.underlying ty = some d) (hr : d.isRow = true) (hi : (P.info? ty).map (·.size) = some cs.length) (h1 : a.tmps.getD a' undef = u) (hq : Q (.returned (.tuple #[.agg cs.toArray, u])) w) : bodyPost P fn Q .ret a w := by
  subst h1
  have hp' : a.tmps[p]?.getD undef = .pointer (some ⟨R, 0, none⟩) := by simpa using hp
  exact bodyPost_ret (by simp [results, h, hp', asAddr, run_loadVar_mid w R 0 ty cs d (range_blk hb) hu hr hi]) hd hq
theorem cut_run (S : ByteArray) (l : List UInt8) (hS : S = txt l) (ts : List Tk) (h : Run l.length (skd l) ts 0 0) (hl : l.length ≤ 3000) (ht : ts.length < 700) (w : World) (hM : Marks w) :
    Calls Tryd.prog 29 #[.string S] w fun e w' => ∃ p cap, e = .returned (.tuple #[.slice p ts.length cap, .int .i64 0, .int .i64 0]) ∧ TokensAt w' (.slice p ts.length cap) ts ∧ Below w.heap.size w w' := by
  subst hS
  have := cut_any (txt l) w ts 0 0 hM (by rw [txt_size]; exact hl) (by rw [txt_list, txt_size]; exact h) ht
  refine this.mono ?_
  rintro e w' ⟨v, rfl, h1, h2⟩
  rw [if_pos rfl] at h1
  obtain ⟨p, cap, rfl, h3⟩ := h1
  exact ⟨p, cap, rfl, ⟨p, cap, rfl, h3⟩, h2⟩
set_option maxHeartbeats 4000000 in
theorem parsed_run (S : ByteArray) (l : List UInt8) (hS : S = txt l) (ts : List Tk) (h : Run l.length (skd l) ts 0 0) (hl : l.length ≤ 3000) (ht : ts.length < 700) (ht0 : 0 < ts.length) (b : Bk) (i : Nat) (hp : prs ts = (b, i, 0)) (w : World) (hB : Tbs w) :
    Calls Tryd.prog 12 #[.string S] w fun e w' => ∃ p1 c1 p2 c2, e = .returned (.tuple #[.agg #[.slice p1 b.t.length c1, .slice p2 b.r.length c2], .int .i64 0]) ∧ HoldsL w' (fun i => w.heap.size ≤ i) (encB b) [.slice p1 b.t.length c1, .slice p2 b.r.length c2] ∧ Below w.heap.size w w' := by
  have HC : Hid (∀ W, Marks W → Calls Tryd.prog 29 #[.string S] W fun e w' => ∃ p cap, e = .returned (.tuple #[.slice p ts.length cap, .int .i64 0, .int .i64 0]) ∧ TokensAt w' (.slice p ts.length cap) ts ∧ Below W.heap.size W w') := fun W hW => cut_run S l hS ts h hl ht W hW
  have HPA : Hid (∀ W V, TokensAt W V ts → Tbs W → Calls Tryd.prog 6 #[V] W (APost W (b, i, 0))) := fun W V hT hW => by
    have := parse_any W V ts hT (toks_low hT ht0) hW
    rw [hp] at this
    exact this
  have HB : Hid (Tbs w) := hB
  obtain ⟨m, hm⟩ : ∃ m, ts.length = m := ⟨_, rfl⟩
  simp only [hm] at HC
  have HW0 : Hid ((w.alloc (.cells #[.slice none 0 0, .slice none 0 0] 26)).heap[w.heap.size]? = some (.cells #[.slice none 0 0, .slice none 0 0] 26 (0, 0))) := heap_alloc_new _ _
  unfold APost at HPA
  simp only at HPA
  clear hB h hl ht ht0 hp hS hm
  go_enter Tryd.func12, Tryd.ntmps12
  go_wp2_with (first
    | (go_at_call 29; refine (HC.out _ (HB.out.below (below_new _ _)).mr).mono ?_; rintro e w1 ⟨p1, cap1, rfl, ht1, hb1⟩; have HT1 : Hid (TokensAt w1 (.slice p1 m cap1) ts) := ht1; have HB1 : Hid (Below w.heap.size w w1) := below_trans (below_new _ _) hb1 (by { simp }); have HR1 : Hid (w1.heap[w.heap.size]? = some (.cells #[.slice none 0 0, .slice none 0 0] 26 (0, 0))) := (hb1.block _ (by { simp })).trans HW0.out; clear ht1 hb1)
    | (go_at_call 6; refine (HPA.out _ _ HT1.out (HB.out.below HB1.out)).mono ?_; rintro e w2 ⟨q1, d1, q2, d2, rfl, hh2, hb2⟩; have HB2 : Hid (Below w.heap.size w w2) := below_trans HB1.out hb2 HB1.out.size; have HR2 : Hid (∀ o, (w2.alloc o).heap[w.heap.size]? = some (.cells #[.slice none 0 0, .slice none 0 0] 26 (0, 0))) := fun o => (Below.heap_alloc _ _ _ (Nat.lt_of_lt_of_le (blk_lt HR1.out) hb2.size)).trans ((hb2.block _ (blk_lt HR1.out)).trans HR1.out); have HH2 : Hid (HoldsL w2 (fun i => w.heap.size + 1 ≤ i) (encB b) [.slice q1 b.t.length d1, .slice q2 b.r.length d2]) := hh2.low (by { have := blk_lt HR1.out; omega }); clear hh2 hb2)
    | (refine wp_st (by rfl) 26 _ _ (by rfl) w.heap.size 0 [.slice none 0 0, .slice none 0 0] 26 (.agg #[.slice q1 b.t.length d1, .slice q2 b.r.length d2]) [.slice q1 b.t.length d1, .slice q2 b.r.length d2] (by rfl) (by rfl) (by rfl) (HR2.out _) (Nat.le_of_ble_eq_true rfl) (by kernel_rfl) (by rfl) ?_; intro w9 hw9 hf9; have HW9 : Hid (w9.heap[w.heap.size]? = some (.cells #[.slice q1 b.t.length d1, .slice q2 b.r.length d2] 26 (0, 0)) ∧ Below w.heap.size w w9 ∧ HoldsL w9 (fun i => w.heap.size ≤ i) (encB b) [.slice q1 b.t.length d1, .slice q2 b.r.length d2]) := ⟨hw9, ((Fr.of_below (X := fun _ => False) (HB2.out.alloc HB2.out.size _)).stored hf9 (.inr (Nat.le_refl _))).below, (HH2.out.on ((Fr.refl _ _).alloc _)).mono (fun i hi hl => ⟨by { have h1 : w.heap.size + 1 ≤ i := hi; show w.heap.size ≤ i; omega }, hf9.block i hl (by { have h1 : w.heap.size + 1 ≤ i := hi; show ¬ i = w.heap.size; omega })⟩)⟩; clear hw9 hf9))
  refine ret2_loc w.heap.size [.slice q1 b.t.length d1, .slice q2 b.r.length d2] 26 _ (.int .i64 0) HW9.out.1 rfl rfl (by rfl) Tryd.underlying26 rfl (by kernel_rfl) (by rfl) ?_
  exact ⟨q1, d1, q2, d2, rfl, HW9.out.2.2, HW9.out.2.1⟩
theorem Holds.only {w : World} {S : Nat → Prop} {e z : Nat} {v : Value} {d : List Dat} (h : Holds w S (.row e z [d]) v) : ∃ gb cap xs, v = .slice (some ⟨gb, 0, none⟩) 1 cap ∧ S gb ∧ gb < w.heap.size ∧ w.rangeAt gb 0 xs ∧ HoldsL w S d xs := by
  cases h with
  | row _ _ _ _ xs h1 h2 h3 h4 =>
    have hc := h1
    rcases h1.2 with ⟨_, h5⟩ | ⟨gb, cap, cur, rfl, _⟩
    · simp at h5
    · refine ⟨gb, cap, xs, rfl, h2 gb rfl, (own_block_some hc rfl).2, fun j u hu => ?_, ?_⟩
      · have := hc.cells (g := gb) rfl j u hu
        rw [Addr.add_mid] at this
        exact this
      · have e : [d].flatten = d := by simp
        rw [e] at h3
        refine ⟨h3, fun k hk => ?_⟩
        have h6 := h4 k (by rw [e]; exact hk)
        simpa [e] using h6
theorem Holds.some {w : World} {S : Nat → Prop} {e z : Nat} {v : Value} {l : List (List Dat)} (h : Holds w S (.row e z l) v) (h0 : 0 < l.length) : ∃ gb cap xs, v = .slice (some ⟨gb, 0, none⟩) l.length cap ∧ S gb ∧ gb < w.heap.size ∧ w.rangeAt gb 0 xs ∧ HoldsL w S l.flatten xs := by
  cases h with
  | row _ _ _ _ xs h1 h2 h3 h4 =>
    have hc := h1
    rcases h1.2 with ⟨_, h5⟩ | ⟨gb, cap, cur, rfl, _⟩
    · omega
    · refine ⟨gb, cap, xs, rfl, h2 gb rfl, (own_block_some hc rfl).2, fun j u hu => ?_, ⟨h3, h4⟩⟩
      have := hc.cells (g := gb) rfl j u hu
      rw [Addr.add_mid] at this
      exact this
/-- A book of one rule with one link of three options, in memory, from a block on. -/
def OneLink (w : World) (lo gr gk go : Nat) (ck co : Nat) (r a b : Int) : Prop :=
  (lo ≤ gr ∧ lo ≤ gk ∧ lo ≤ go) ∧ gr < w.heap.size ∧ gk < w.heap.size ∧ go < w.heap.size ∧ w.cell? ⟨gr, 4, none⟩ = some (.slice (some ⟨gk, 0, none⟩) 1 ck) ∧ w.cell? ⟨gk, 1, none⟩ = some (.slice (some ⟨go, 0, none⟩) 3 co) ∧ w.rangeAt go 0 [.int .i64 r, .int .i64 0, .int .i64 (-1), .int .i64 r, .int .i64 a, .int .i64 b, .int .i64 r, .int .i64 a, .int .i64 (-1)]
theorem OneLink.on {w w' : World} {lo lo' gr gk go ck co : Nat} {r a b : Int} (h : OneLink w lo gr gk go ck co r a b) (hl : lo' ≤ lo) (hs : w.heap.size ≤ w'.heap.size) (hb : ∀ i, lo ≤ i → i < w.heap.size → w'.heap[i]? = w.heap[i]?) : OneLink w' lo' gr gk go ck co r a b := by
  obtain ⟨h0, h1, h2, h3, h4, h5, h6⟩ := h
  refine ⟨⟨Nat.le_trans hl h0.1, Nat.le_trans hl h0.2.1, Nat.le_trans hl h0.2.2⟩, Nat.lt_of_lt_of_le h1 hs, Nat.lt_of_lt_of_le h2 hs, Nat.lt_of_lt_of_le h3 hs, (World.cell?_of_block (hb _ h0.1 h1)).trans h4, (World.cell?_of_block (hb _ h0.2.1 h2)).trans h5, fun j v hv => ?_⟩
  exact (World.cell?_of_block (hb _ h0.2.2 h3)).trans (h6 j v hv)
theorem oneLink_of {w : World} {lo : Nat} {k a b : Nat} {v1 v2 : Value} (h : HoldsL w (fun i => lo ≤ i) (encB (optB k a b)) [v1, v2]) : ∃ p1 c1 gr c2 gk ck go co, v1 = .slice p1 0 c1 ∧ v2 = .slice (some ⟨gr, 0, none⟩) 1 c2 ∧ OneLink w lo gr gk go ck co ((k : Int) + 1) a b := by
  obtain ⟨ht, h2⟩ := h.head
  obtain ⟨hr, _⟩ := h2.head
  obtain ⟨p1, c1, e1⟩ := row_shape ht
  obtain ⟨gr, c2, xs, e2, g1, g2, g3, g4⟩ := Holds.only hr
  obtain ⟨u0, r0, rfl, _, g4⟩ := g4.one
  obtain ⟨u1, r1, rfl, _, g4⟩ := g4.one
  obtain ⟨u2, r2, rfl, _, g4⟩ := g4.one
  obtain ⟨u3, r3, rfl, _, g4⟩ := g4.one
  obtain ⟨u4, r4, rfl, hk, g4⟩ := g4.one
  obtain ⟨gk, ck, ys, e3, k1, k2, k3, k4⟩ := Holds.only hk
  obtain ⟨y0, z0, rfl, _, k4⟩ := k4.one
  obtain ⟨y1, z1, rfl, ho, k4⟩ := k4.one
  obtain ⟨go, co, os, e4, o1, o2, o3, o4⟩ := Holds.some ho (by simp)
  refine ⟨p1, c1, gr, c2, gk, ck, go, co, e1, e2, ⟨g1, k1, o1⟩, g2, k2, o2, ?_, ?_, ?_⟩
  · have := g3 4 u4 rfl
    rw [e3] at this
    simpa using this
  · have := k3 1 y1 rfl
    rw [e4] at this
    simpa using this
  · have : os = [.int .i64 ((k : Int) + 1), .int .i64 0, .int .i64 (-1), .int .i64 ((k : Int) + 1), .int .i64 a, .int .i64 b, .int .i64 ((k : Int) + 1), .int .i64 a, .int .i64 (-1)] := by
      obtain ⟨v0, q0, rfl, l0, o4⟩ := o4.one
      obtain ⟨v1, q1, rfl, l1, o4⟩ := o4.one
      obtain ⟨v2, q2, rfl, l2, o4⟩ := o4.one
      obtain ⟨v3, q3, rfl, l3, o4⟩ := o4.one
      obtain ⟨v4, q4, rfl, l4, o4⟩ := o4.one
      obtain ⟨v5, q5, rfl, l5, o4⟩ := o4.one
      obtain ⟨v6, q6, rfl, l6, o4⟩ := o4.one
      obtain ⟨v7, q7, rfl, l7, o4⟩ := o4.one
      obtain ⟨v8, q8, rfl, l8, o4⟩ := o4.one
      rw [lit_out l0, lit_out l1, lit_out l2, lit_out l3, lit_out l4, lit_out l5, lit_out l6, lit_out l7, lit_out l8, o4.none]
    rw [← this]
    exact o3
theorem toks_one (w : World) (n : Nat) : TokensAt (w.alloc (.cells #[.int .i64 2, .string ⟨#[]⟩, .int .i64 n] 38)) (.slice (some ⟨w.heap.size, 0, none⟩) 1 1) [nT n] := by
  refine ⟨_, 1, rfl, Nat.le_refl _, by decide, fun _ => ⟨w.heap.size, 0, rfl, fun j hj => ?_⟩⟩
  have hj2 : j = 0 := by simp at hj; omega
  subst hj2
  refine ⟨by simp, ?_, ?_, ?_⟩ <;> simp [go_sem] <;> rfl
theorem join_one (w : World) (n : Nat) (hn : n < 1000) (hM : Marks w) (hP : Pow w) : Calls Tryd.prog 11 #[.slice (some ⟨w.heap.size, 0, none⟩) 1 1] (w.alloc (.cells #[.int .i64 2, .string ⟨#[]⟩, .int .i64 n] 38)) fun e w' => e = .returned (.tuple #[.string (txt (cat [nT n])), .int .i64 0]) ∧ Below w.heap.size w w' := by
  have hf := one_ok (nT_ok n hn)
  have := join_any _ [nT n] _ (toks_one w n) (hM.below (below_new _ _)) (hP.below (below_new _ _))
  have e : jn [nT n] = (cat [nT n], 0) := by
    unfold jn
    have h1 : fst (tat [nT n]) [nT n].length = 0 := fst_all fun k hk => by rw [tat_at hk]; exact hf _ (List.getElem_mem hk)
    have h2 := cat_len [nT n] hf
    have h3 : [nT n].length = 1 := rfl
    rw [if_neg (by omega), h1, if_neg (by simp), if_neg (by omega)]
  rw [e] at this
  refine this.mono ?_
  rintro e w' ⟨rfl, hb⟩
  exact ⟨rfl, below_trans (below_new _ _) hb (by simp)⟩
end Go.Proofs.YtggfaglfchepfaaDoor
namespace Go.Proofs.YtggfaglfchepfaaDoor
open Go.ChangeShapes Go.WideShapes Go.ChangeAt Go.RowKit Go.Maps
set_option linter.unusedVariables false
set_option linter.unusedSimpArgs false
set_option maxRecDepth 20000
def rlA : Array Value := (rll.map fun m => Value.string (txt m)).toArray
theorem optX_eq (k a b : Nat) : optX k a b = ((((((((((((([114, 117, 108, 101, 32, 114, 32, 123, 32, 119, 104, 101, 114, 101, 32, 120, 32] ++ rll.getD k []) ++ [32, 111, 114, 32]) ++ rll.getD k []) ++ [32, 40, 32]) ++ cat [nT a]) ++ [32, 44, 32]) ++ cat [nT b]) ++ [32, 41, 32, 111, 114, 32]) ++ rll.getD k []) ++ [32, 40, 32]) ++ cat [nT a]) ++ [32, 44, 32, 97, 110, 121, 32, 41, 32, 121, 32, 59, 32, 125] : List UInt8)) := by
  obtain ⟨y, hy⟩ : ∃ y, rll.getD k [] = y := ⟨_, rfl⟩
  simp [optX, cat, tA, tB, tC, shw, wT, mT, nT, rT, txt_list, hy]
theorem rll_len (k : Nat) (hk : k < 13) : (rll.getD k []).length ≤ 10 := by
  have h : ((List.range 13).all fun k => decide ((rll.getD k []).length ≤ 10)) = true := by kernel_rfl
  simpa using List.all_eq_true.1 h k (by simpa using hk)
set_option maxHeartbeats 8000000 in
theorem options_walk (r low high : Int) (w : World) (hr : -9223372036854775808 ≤ r ∧ r ≤ 9223372036854775807) (hlo : -9223372036854775808 ≤ low ∧ low ≤ 9223372036854775807) (hhi : -9223372036854775808 ≤ high ∧ high ≤ 9223372036854775807) (hB : Tbs w) (hP : Pow w) :
    Calls Tryd.prog 4 #[.int .i64 r, .int .i64 low, .int .i64 high] w fun e w' => e = .returned (.bool true) ∧ Below w.heap.size w w' := by
  obtain ⟨k, hk, hp1⟩ := picked_const r 13 13 (by rfl) hr (by omega) (by omega)
  obtain ⟨a, ha, hp2⟩ := picked_const low 1000 1000 (by rfl) hlo (by omega) (by omega)
  obtain ⟨b, hb, hp3⟩ := picked_const high 1000 1000 (by rfl) hhi (by omega) (by omega)
  have HK1 : Hid (∀ W, Calls Tryd.prog 10 #[.int .i64 r, .int .i64 13] W fun e w' => e = .returned (.int .i64 k) ∧ w' = W) := hp1
  have HK2 : Hid (∀ W, Calls Tryd.prog 10 #[.int .i64 low, .int .i64 1000] W fun e w' => e = .returned (.int .i64 a) ∧ w' = W) := hp2
  have HK3 : Hid (∀ W, Calls Tryd.prog 10 #[.int .i64 high, .int .i64 1000] W fun e w' => e = .returned (.int .i64 b) ∧ w' = W) := hp3
  obtain ⟨y, hy⟩ : ∃ y, txt (rll.getD k []) = y := ⟨_, rfl⟩
  obtain ⟨x, hx⟩ : ∃ x, txt (cat [nT a]) = x := ⟨_, rfl⟩
  obtain ⟨z, hz⟩ : ∃ z, txt (cat [nT b]) = z := ⟨_, rfl⟩
  have zy : y.size ≤ 10 := by rw [← hy, txt_size]; exact rll_len k hk
  have zx : x.size ≤ 100 := by rw [← hx, txt_size]; have := cat_len [nT a] (one_ok (nT_ok a ha)); simp at this; omega
  have zz : z.size ≤ 100 := by rw [← hz, txt_size]; have := cat_len [nT b] (one_ok (nT_ok b hb)); simp at this; omega
  have HJ1 : Hid (∀ W B, B = W.heap.size → Marks W → Pow W → Calls Tryd.prog 11 #[.slice (some ⟨B, 0, none⟩) 1 1] (W.alloc (.cells #[.int .i64 2, .string ⟨#[]⟩, .int .i64 a] 38)) fun e w' => e = .returned (.tuple #[.string x, .int .i64 0]) ∧ Below W.heap.size W w') := fun W B hB hM hP => by
    subst hB
    rw [← hx]
    exact join_one W a ha hM hP
  have HJ2 : Hid (∀ W B, B = W.heap.size → Marks W → Pow W → Calls Tryd.prog 11 #[.slice (some ⟨B, 0, none⟩) 1 1] (W.alloc (.cells #[.int .i64 2, .string ⟨#[]⟩, .int .i64 b] 38)) fun e w' => e = .returned (.tuple #[.string z, .int .i64 0]) ∧ Below W.heap.size W w') := fun W B hB hM hP => by
    subst hB
    rw [← hz]
    exact join_one W b hb hM hP
  have HPR : Hid (∀ W, Tbs W → Calls Tryd.prog 12 #[.string (((((((((((((⟨#[114, 117, 108, 101, 32, 114, 32, 123, 32, 119, 104, 101, 114, 101, 32, 120, 32]⟩ : ByteArray) ++ y) ++ (⟨#[32, 111, 114, 32]⟩ : ByteArray)) ++ y) ++ (⟨#[32, 40, 32]⟩ : ByteArray)) ++ x) ++ (⟨#[32, 44, 32]⟩ : ByteArray)) ++ z) ++ (⟨#[32, 41, 32, 111, 114, 32]⟩ : ByteArray)) ++ y) ++ (⟨#[32, 40, 32]⟩ : ByteArray)) ++ x) ++ (⟨#[32, 44, 32, 97, 110, 121, 32, 41, 32, 121, 32, 59, 32, 125]⟩ : ByteArray))] W fun e w' => ∃ p1 c1 gr c2 gk ck go co, e = .returned (.tuple #[.agg #[.slice p1 0 c1, .slice (some ⟨gr, 0, none⟩) 1 c2], .int .i64 0]) ∧ OneLink w' W.heap.size gr gk go ck co ((k : Int) + 1) a b ∧ Below W.heap.size W w') := fun W hW => by
    refine (parsed_run _ (optX k a b) ?_ (optT k a b) (opt_run _ k a b hk ha hb) ?_ (by rw [opt_len]; omega) (by rw [opt_len]; omega) (optB k a b) 0 (opt_prs k a b hk ha hb) W hW).mono ?_
    · rw [optX_eq, ← hy, ← hx, ← hz]
      simp only [← txt_app]
      rfl
    · have q1 := rll_len k hk
      have q2 : (cat [nT a]).length ≤ 100 := by rw [← hx, txt_size] at zx; exact zx
      have q3 : (cat [nT b]).length ≤ 100 := by rw [← hz, txt_size] at zz; exact zz
      rw [optX_eq]
      simp only [List.length_append, List.length_cons, List.length_nil]
      omega
    rintro e w' ⟨p1, c1, p2, c2, rfl, hh, hbl⟩
    obtain ⟨q1, d1, gr, d2, gk, ck, go, co, e1, e2, ho⟩ := oneLink_of hh
    rw [e1, e2]
    exact ⟨q1, d1, gr, d2, gk, ck, go, co, rfl, ho, hbl⟩
  have HC0 : Hid ((w.alloc (.cells rlA 9)).cell? ⟨w.heap.size, k, none⟩ = some (.string y)) := by
    show _ = _
    rw [cell_of_row _ _ k rlA 9 (0, 0) (heap_alloc_new _ _), ← hy]
    exact tab_at rll k hk
  have HB : Hid (Tbs w) := hB
  have HP : Hid (Pow w) := hP
  have i1 : (0 : Int) ≤ (k : Int) := by omega
  have i2 : (k : Int) < 13 := by omega
  have HAB : Hid (k < 13 ∧ a < 1000 ∧ b < 1000) := ⟨hk, ha, hb⟩
  clear hp1 hp2 hp3 hx hy hz hk ha hb hB hP hr hlo hhi
  go_enter Tryd.func4, Tryd.ntmps4
  go_wp2_with (first
    | (go_at_call_of 10 (Value.int .i64 r); refine (HK1.out _).mono ?_; rintro e w' ⟨rfl, rfl⟩)
    | (go_at_call_of 10 (Value.int .i64 low); refine (HK2.out _).mono ?_; rintro e w' ⟨rfl, rfl⟩)
    | (go_at_call_of 10 (Value.int .i64 high); refine (HK3.out _).mono ?_; rintro e w' ⟨rfl, rfl⟩))
  refine (HJ1.out (w.alloc (.cells rlA 9)) _ (by simp) (HB.out.below (below_new _ _)).mr (HP.out.below (below_new _ _))).mono ?_
  rintro e w1 ⟨rfl, hb1⟩
  have HC1 : Hid (w1.cell? ⟨w.heap.size, k, none⟩ = some (.string y)) := (hb1.cell (p := ⟨w.heap.size, k, none⟩) (by simp)).trans HC0.out
  have HB1 : Hid (Below w.heap.size w w1) := below_trans (below_new _ _) hb1 (by simp)
  have HS1 : Hid (w.heap.size < w1.heap.size) := by have := hb1.size; simp at this; show _ < _; omega
  clear hb1 HC0
  go_wp2_with (go_at_call 11; refine (HJ2.out w1 _ rfl (HB.out.below HB1.out).mr (HP.out.below HB1.out)).mono ?_; rintro e w2 ⟨rfl, hb2⟩; have HC2 : Hid (w2.cell? ⟨w.heap.size, k, none⟩ = some (.string y)) := (hb2.cell (p := ⟨w.heap.size, k, none⟩) HS1.out).trans HC1.out; have HB2 : Hid (Below w.heap.size w w2) := below_trans HB1.out hb2 HB1.out.size; have HS2 : Hid (w.heap.size < w2.heap.size) := Nat.lt_of_lt_of_le HS1.out hb2.size; clear hb2)
  have c2 := HC2.out
  have c2a : ∀ o, (w2.alloc o).cell? ⟨w.heap.size, k, none⟩ = some (.string y) := fun o => (World.cell?_alloc_past _ _ _ HS2.out).trans HC2.out
  have HTd : Hid (Tbs w2.drew) := HB.out.below (HB2.out.trans ⟨rfl, rfl, rfl, Nat.le_refl _, fun _ _ => rfl⟩)
  have HTa : Hid (∀ o, Tbs (w2.alloc o).drew) := fun o => HB.out.below ((HB2.out.alloc HB2.out.size o).trans ⟨rfl, rfl, rfl, Nat.le_refl _, fun _ _ => rfl⟩)
  go_cut [15, 16] from 39 (fun o e wx => ∃ X p1 c1 gr c3 gk ck go co, o = .pointer (some ⟨X, 0, none⟩) ∧ e = .int .i64 0 ∧ wx.heap[X]? = some (.cells #[.slice p1 0 c1, .slice (some ⟨gr, 0, none⟩) 1 c3] 26 (0, 0)) ∧ OneLink wx 0 gr gk go ck co ((k : Int) + 1) a b ∧ Below w.heap.size w wx)
  case first =>
    have n0 : (9223372036854775807 < 17 + y.size) = False := by simp; omega
    have n1 : (9223372036854775807 < 17 + y.size + 4) = False := by simp; omega
    have n2 : (9223372036854775807 < 17 + y.size + 4 + y.size) = False := by simp; omega
    have n3 : (9223372036854775807 < 17 + y.size + 4 + y.size + 3) = False := by simp; omega
    have n4 : (9223372036854775807 < 17 + y.size + 4 + y.size + 3 + x.size) = False := by simp; omega
    have n5 : (9223372036854775807 < 17 + y.size + 4 + y.size + 3 + x.size + 3) = False := by simp; omega
    have n6 : (9223372036854775807 < 17 + y.size + 4 + y.size + 3 + x.size + 3 + z.size) = False := by simp; omega
    have n7 : (9223372036854775807 < 17 + y.size + 4 + y.size + 3 + x.size + 3 + z.size + 6) = False := by simp; omega
    have n8 : (9223372036854775807 < 17 + y.size + 4 + y.size + 3 + x.size + 3 + z.size + 6 + y.size) = False := by simp; omega
    have n9 : (9223372036854775807 < 17 + y.size + 4 + y.size + 3 + x.size + 3 + z.size + 6 + y.size + 3) = False := by simp; omega
    have n10 : (9223372036854775807 < 17 + y.size + 4 + y.size + 3 + x.size + 3 + z.size + 6 + y.size + 3 + x.size) = False := by simp; omega
    have n11 : (9223372036854775807 < 17 + y.size + 4 + y.size + 3 + x.size + 3 + z.size + 6 + y.size + 3 + x.size + 14) = False := by simp; omega
    have hne1 : ¬ w2.heap.size = w.heap.size := by have := HS2.out; omega
    have hne2 : ¬ w.heap.size = w2.heap.size := by have := HS2.out; omega
    go_region_held3 (fun w' => w'.cell? ⟨w.heap.size, k, none⟩ = some (.string y))
      (first | exact q3 | (go_keep; done))
      ((go_at_call 12; refine (HPR.out _ (by first | exact HTd.out | exact HTa.out _)).mono ?_; rintro e w3 ⟨p1, c1, gr, c3, gk, ck, go, co, rfl, ho, hb3⟩; first
      | (have HO1 : Hid (OneLink w3 w2.heap.size gr gk go ck co ((k : Int) + 1) a b) := ho; have HB3 : Hid (Below w.heap.size w w3) := below_trans HB2.out (show Below w2.heap.size w2 w3 from ⟨hb3.os, hb3.tape, hb3.output, hb3.size, hb3.block⟩) HB2.out.size; have q3 : w3.cell? ⟨w.heap.size, k, none⟩ = some (.string y) := (hb3.cell (p := ⟨w.heap.size, k, none⟩) HS2.out).trans c2; clear ho hb3)
      | (have HO2 : Hid (OneLink w3 (w2.heap.size + 1) gr gk go ck co ((k : Int) + 1) a b) := ho.on (by { simp }) (Nat.le_refl _) (fun _ _ _ => rfl); have HX3 : Hid (w3.heap[w2.heap.size]? = some (.cells #[.slice none 0 0, .slice none 0 0] 26 (0, 0))) := (hb3.block _ (by { simp })).trans (heap_alloc_new _ _); have c30 := cell_of_blk HX3.out 0; have c31 := cell_of_blk HX3.out 1; have f30 := free_of_blk HX3.out 0; have f31 := free_of_blk HX3.out 1; simp at c30 c31; have HB3 : Hid (Below w.heap.size w w3) := below_trans (HB2.out.alloc HB2.out.size _) (show Below (w2.alloc (.cells #[.slice none 0 0, .slice none 0 0] 26)).heap.size (w2.alloc (.cells #[.slice none 0 0, .slice none 0 0] 26)) w3 from ⟨hb3.os, hb3.tape, hb3.output, hb3.size, hb3.block⟩) (by { have := HB2.out.size; simp; omega }); have q3 : w3.cell? ⟨w.heap.size, k, none⟩ = some (.string y) := (hb3.cell (p := ⟨w.heap.size, k, none⟩) (by { have := HS2.out; simp; omega })).trans (c2a _); clear ho hb3)))
    all_goals
      go_wp2_with fail
      go_meet
      case rel =>
        first
          | exact ⟨w3.heap.size, p1, c1, gr, c3, gk, ck, go, co, rfl, rfl, heap_alloc_new _ _, HO1.out.on (Nat.zero_le _) (by simp) (fun i _ hi => Below.heap_alloc _ _ _ hi), HB3.out.alloc HB3.out.size _⟩
          | exact ⟨w2.heap.size, p1, c1, gr, c3, gk, ck, go, co, rfl, rfl, (by have h := blk_set (blk_set HX3.out 0 (.slice p1 0 c1)) 1 (.slice (some ⟨gr, 0, none⟩) 1 c3); exact h), HO2.out.on (Nat.zero_le _) (by simp [World.setCell]) (fun i hi hl => (Below.heap_setCell _ _ _ _ (by show i ≠ w2.heap.size; omega)).trans (Below.heap_setCell _ _ _ _ (by show i ≠ w2.heap.size; omega))), (((Fr.of_below (X := fun _ => False) HB3.out).setCell (p := ⟨w2.heap.size, 0, none⟩) (.inr HB2.out.size) _).setCell (p := ⟨w2.heap.size, 1, none⟩) (.inr HB2.out.size) _).below⟩
  case rest =>
    obtain ⟨X, p1, c1, gr, c3, gk, ck, go, co, rfl, rfl, hX, ⟨_, hgr, hgk, hgo, e4, e5, e6⟩, hbel⟩ := hcut
    have d1 : wc.cell? ⟨X, 1, none⟩ = some (.slice (some ⟨gr, 0, none⟩) 1 c3) := by rw [cell_of_blk hX]; rfl
    have o0 := e6 0 (.int .i64 ((k : Int) + 1)) rfl
    have o1 := e6 1 (.int .i64 0) rfl
    have o2 := e6 2 (.int .i64 (-1)) rfl
    have o3 := e6 3 (.int .i64 ((k : Int) + 1)) rfl
    have o4 := e6 4 (.int .i64 a) rfl
    have o5 := e6 5 (.int .i64 b) rfl
    have o6 := e6 6 (.int .i64 ((k : Int) + 1)) rfl
    have o7 := e6 7 (.int .i64 a) rfl
    have o8 := e6 8 (.int .i64 (-1)) rfl
    simp only [Nat.zero_add] at o0 o1 o2 o3 o4 o5 o6 o7 o8
    have HBE : Hid (Below w.heap.size w wc) := hbel
    clear c2 c2a hX e6 hbel hgr hgk hgo HPR HK1 HK2 HK3 HJ1 HJ2 HTd HTa
    go_wp2_with fail
    all_goals
      go_ret
      first | exact ⟨rfl, HBE.out⟩ | exact ⟨ret_bool (by simp), HBE.out⟩
end Go.Proofs.YtggfaglfchepfaaDoor
