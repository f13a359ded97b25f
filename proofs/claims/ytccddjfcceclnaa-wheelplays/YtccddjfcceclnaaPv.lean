/-
  A deed's own part: each way of it.
-/
import Derived.Test.YtccddjfcceclnaaPd
namespace Go.Proofs.Ytccddjfcceclnaa
open Go.ChangeShapes Go.WideShapes Go.ChangeAt Go.RowKit Go.Maps
set_option linter.unusedVariables false
set_option linter.unusedSimpArgs false
theorem good_take {s0 : Sp} (h : Good s0) (ds : List Dd) : Good (after s0 ds) := by
  induction ds generalizing s0 with
  | nil => exact h
  | cons d r ih => exact ih (h.step d)
theorem owns_low {w : World} {base b2 : Nat} {e : TypeId} {size : Nat} {v : Value} {n : Nat} {xs : List Value} (h : w.ownsRow base e size v n xs) (hb : b2 ≤ base) : w.ownsRow b2 e size v n xs := by
  refine ⟨h.1, ?_⟩
  rcases h.2 with hn | ⟨g, cap, cur, h1, h2, h3⟩
  · exact .inl hn
  · exact .inr ⟨g, cap, cur, h1, by omega, h3⟩
theorem md_same {w wr : World} {o : Obj} {s : Sp} {st : Value} (hs : wr.ownsRow w.heap.size 56 2 st s.L.length (s.L.flatMap encA)) (hb : Below w.heap.size w wr) : Md w (wr.alloc o) (wr.alloc o) s [] st st (.slice none 0 0) where
  set := hs.alloc o
  due := by simpa using World.ownsRow_nil _ (wr.alloc o).heap.size 3 1
  fr b hb := Or.inl hb
  ne b hb := by cases hb
  size := Nat.le_refl _
  block b _ _ := rfl
  below := hb.alloc hb.size o
/-- A deed's own part is done. -/
def Dn (w W1 : World) (s : Sp) (d : Dd) (st nv st' e dv : Value) (wx : World) : Prop :=
  ∃ q dl s', step s d = (q, dl, s') ∧ nv = .int .i64 (s'.now : Nat) ∧ e = .int .i64 q ∧ dl.length ≤ 1000 ∧ Md w W1 wx s' dl st st' dv
theorem dn_same {w wr : World} {o : Obj} {s : Sp} {d : Dd} {st : Value} {r m : Nat} {q : Int} (hs : wr.ownsRow w.heap.size 56 2 st r (s.L.flatMap encA)) (hr : s.L.length = r) (hb : Below w.heap.size w wr) (hm : s.now = m)
    (h : step s d = (q, [], s)) : Dn w (wr.alloc o) s d st (.int .i64 (m : Nat)) st (.int .i64 q) (.slice none 0 0) (wr.alloc o) := by
  subst hr hm
  exact ⟨q, [], s, h, rfl, rfl, by simp, md_same hs hb⟩
theorem dn_drew {w W1 wx : World} {s : Sp} {d : Dd} {st nv st' e dv : Value} (h : Dn w W1 s d st nv st' e dv wx) (n : Nat) : Dn w W1 s d st nv st' e dv (wx.drewN n) := by
  obtain ⟨q, dl, s', h1, h2, h3, h4, h5⟩ := h
  exact ⟨q, dl, s', h1, h2, h3, h4, owns_block h5.set (fun _ _ => rfl), owns_block h5.due (fun _ _ => rfl), h5.fr, h5.ne, h5.size, h5.block, below_drewN h5.below n⟩
theorem dn_set {w wr w3 : World} {o o2 : Obj} {s : Sp} {d : Dd} {st v' : Value} {r m : Nat} {t : Tm} (hs : wr.ownsRow w.heap.size 56 2 st r (s.L.flatMap encA)) (hr : s.L.length = r) (hb : Below w.heap.size w wr) (hm : s.now = m)
    (h : step s d = (0, [], ⟨s.now, s.ords + 1, s.L ++ [t]⟩))
    (hown : w3.ownsRow w.heap.size 56 2 v' (r + 1) (s.L.flatMap encA ++ encA t)) (hg : ((wr.alloc o).alloc o2).grownBy w3 st.ownBlock) (hat : v'.ownBlock = st.ownBlock ∨ v'.ownBlock = some ((wr.alloc o).alloc o2).heap.size) :
    Dn w (wr.alloc o) s d st (.int .i64 (m : Nat)) v' (.int .i64 0) (.slice none 0 0) w3 := by
  subst hr hm
  have b1 : Below w.heap.size w (wr.alloc o) := hb.alloc hb.size o
  refine ⟨0, [], _, h, rfl, rfl, by simp, ?_, ?_, fun b hb => ?_, fun b hb => (by cases hb), ?_, fun b hb hn => ?_, ?_⟩
  · simpa [List.flatMap_append] using hown
  · simpa using World.ownsRow_nil _ (wr.alloc o).heap.size 3 1
  · rcases hat with c | c
    · left; rw [← c]; exact hb
    · right; rw [c] at hb; simp at hb; simp; omega
  · have := hg.size; simp at this; simp; omega
  · have h1 := hg.block b (by simp at hb ⊢; omega) (fun c => hn c.symm)
    exact h1.trans (Below.heap_alloc _ _ _ hb)
  · exact (b1.alloc b1.size o2).grown hg (by have := hb.size; simp; omega) (fun b hb => (hs.lt b hb).1)
theorem dn_clear {w wr w3 : World} {o : Obj} {s : Sp} {d : Dd} {st u : Value} {m j : Nat} (hb : Below w.heap.size w wr) (hm : s.now = m)
    (h : step s d = (0, [], ⟨s.now, s.ords, s.L.eraseIdx j⟩))
    (hown : w3.ownsRow (wr.alloc o).heap.size 56 2 u (s.L.eraseIdx j).length ((s.L.eraseIdx j).flatMap encA)) (hg : Below (wr.alloc o).heap.size (wr.alloc o) w3) :
    Dn w (wr.alloc o) s d st (.int .i64 (m : Nat)) u (.int .i64 0) (.slice none 0 0) w3 := by
  subst hm
  have b1 : Below w.heap.size w (wr.alloc o) := hb.alloc hb.size o
  refine ⟨0, [], _, h, rfl, rfl, by simp, owns_low hown b1.size, ?_, fun b hb => Or.inr (hown.lt b hb).1, fun b hb => (by cases hb), hg.size, fun b hb hn => hg.block b hb, b1.trans (hg.mono b1.size)⟩
  simpa using World.ownsRow_nil _ (wr.alloc o).heap.size 3 1
/-- One more that was due. -/
theorem md_pop {w W1 wx w3 w4 : World} {N O : Nat} {l pre : List Tm} {st st' dv dv' u : Value} {b p : Nat} {t : Tm} {o : Obj} {q : Nat} (h : Md w W1 wx ⟨N, O, l⟩ pre st st' dv) (hw : w.heap.size ≤ W1.heap.size)
    (hp : pre.length = p)
    (hd : w3.ownsRow W1.heap.size 3 1 dv' (p + 1) ((pre.map fun t => .int .i64 (t.i : Int)) ++ [.int .i64 (t.i : Int)])) (hdg : ((wx.drewN q).alloc o).grownBy w3 dv.ownBlock)
    (hown : w4.ownsRow w3.heap.size 56 2 u (l.eraseIdx b).length ((l.eraseIdx b).flatMap encA)) (hg : Below w3.heap.size w3 w4) :
    Md w W1 w4 ⟨N, O, l.eraseIdx b⟩ (pre ++ [t]) st u dv' := by
  subst hp
  have s1 := h.size
  have s2 : wx.heap.size + 1 ≤ w3.heap.size := by have := hdg.size; simpa [World.drewN] using this
  have s3 := hg.size
  have hb4 : Below w.heap.size w w3 := ((below_drewN h.below q).alloc (below_drewN h.below q).size o).grown hdg (by have := h.below.size; simp [World.drewN]; omega) (fun b hb => by have := (h.due.lt b hb).1; omega)
  refine ⟨owns_low hown (by omega), ?_, fun x hx => Or.inr (by have := (hown.lt x hx).1; omega), fun x hx e => ?_, by omega, fun x hx hn => ?_, hb4.trans (hg.mono (by omega))⟩
  · have := owns_block hd (w' := w4) (fun x hx => hg.block x (hd.lt x hx).2)
    simpa using this
  · have := (hd.lt x hx).2; have := (hown.lt x e).1; omega
  · have h1 := hdg.block x (by simp [World.drewN]; omega) (fun c => by have := (h.due.lt x c.symm).1; omega)
    have h2 := Below.heap_alloc (wx.drewN q) o x (by simp [World.drewN]; omega)
    exact (hg.block x (by omega)).trans (h1.trans (h2.trans (h.block x hx hn)))
/-- Before the first, between two, behind the last of those that are due. -/
structure Po (w W1 wx : World) (N : Nat) (s : Sp) (l pre : List Tm) (st st' dv : Value) : Prop where
  due : srt (s.L.filter fun t => decide (t.a ≤ N)) = pre ++ srt (l.filter fun t => decide (t.a ≤ N))
  rest : (s.L.filter fun t => !decide (t.a ≤ N)) = l.filter fun t => !decide (t.a ≤ N)
  ordd : l.Pairwise fun t u => t.o < u.o
  few : pre.length + l.length ≤ 1000
  md : Md w W1 wx ⟨N, s.ords, l⟩ pre st st' dv
theorem po_start {w wr : World} {o : Obj} {s : Sp} {st : Value} {r N : Nat} (g : Good s) (hs : wr.ownsRow w.heap.size 56 2 st r (s.L.flatMap encA)) (hr : s.L.length = r) (hb : Below w.heap.size w wr) : Po w (wr.alloc o) (wr.alloc o) N s s.L [] st st (.slice none 0 0) where
  due := by simp
  rest := rfl
  ordd := g.ordd
  few := by have := g.few; simpa using this
  md := by subst hr; exact md_same (s := ⟨N, s.ords, s.L⟩) hs hb
theorem erase_rest {l : List Tm} {b : Nat} {f : Tm → Bool} (h : b < l.length) (hf : f l[b] = false) : (l.eraseIdx b).filter f = l.filter f := by
  have e := List.take_append_drop b l
  rw [List.drop_eq_getElem_cons h] at e
  rw [List.eraseIdx_eq_take_drop_succ]
  conv => rhs; rw [← e]
  rw [List.filter_append, List.filter_append, List.filter_cons_of_neg (by simp [hf])]
theorem po_next {w W1 wx w3 w4 : World} {N : Nat} {s : Sp} {l pre : List Tm} {st st' dv dv' u : Value} {b p : Nat} {o : Obj} {q : Nat} (h : Po w W1 wx N s l pre st st' dv) (hw : w.heap.size ≤ W1.heap.size) (hb : Soon l b) (hn : (l[b]'hb.1).a ≤ N)
    (hp : pre.length = p)
    (hd : w3.ownsRow W1.heap.size 3 1 dv' (p + 1) ((pre.map fun t => .int .i64 (t.i : Int)) ++ [.int .i64 ((l[b]'hb.1).i : Int)])) (hdg : ((wx.drewN q).alloc o).grownBy w3 dv.ownBlock)
    (hown : w4.ownsRow w3.heap.size 56 2 u (l.eraseIdx b).length ((l.eraseIdx b).flatMap encA)) (hg : Below w3.heap.size w3 w4) :
    Po w W1 w4 N s (l.eraseIdx b) (pre ++ [l[b]'hb.1]) st u dv' where
  due := by rw [h.due, pop_one h.ordd hb hn]; simp
  rest := by rw [h.rest, erase_rest hb.1 (by simpa using hn)]
  ordd := h.ordd.sublist (List.eraseIdx_sublist ..)
  few := by have := h.few; have := hb.1; simp [List.length_eraseIdx, hb.1]; omega
  md := md_pop h.md hw hp hd hdg hown hg
theorem dn_pass {w W1 wx : World} {N : Nat} {s : Sp} {l pre : List Tm} {st st' dv : Value} {y z : Int} (h : Po w W1 wx N s l pre st st' dv) (he : ∀ t, t ∈ l → N < t.a) (hz : z = (N : Int)) (h1 : s.now ≤ N) (h2 : N ≤ 1099511627776) :
    Dn w W1 s (3, y, z) st (.int .i64 (N : Nat)) st' (.int .i64 0) dv wx := by
  subst hz
  have e1 : (l.filter fun t => decide (t.a ≤ N)) = [] := List.filter_eq_nil_iff.2 fun t ht => by have := he t ht; simp; omega
  have e2 : (l.filter fun t => !decide (t.a ≤ N)) = l := List.filter_eq_self.2 fun t ht => by have := he t ht; simp; omega
  have d1 := h.due
  rw [e1] at d1
  have d2 : srt [] = [] := by simp [srt]
  rw [d2, List.append_nil] at d1
  have d3 := h.rest
  rw [e2] at d3
  refine ⟨0, pre, ⟨N, s.ords, l⟩, ?_, rfl, rfl, by have := h.few; omega, h.md⟩
  unfold step
  rw [if_neg (by simp), if_neg (by simp), if_pos rfl, if_neg (by simp; omega)]
  simp only [Int.ofNat_le, Int.toNat_natCast, d1, d3]
/-- The rows of all deeds lie as they lay, behind a deed's own part. -/
theorem pd_in {w wr wx : World} {o : Obj} {s0 s' : Sp} {ds : List Dd} {k : Nat} {cs du st st' dv : Value} {us : Nat → Value} {dl : List Tm} (h : Pd w wr s0 ds k cs du st us) (hm : Md w (wr.alloc o) wx s' dl st st' dv) :
    wx.ownsRow w.heap.size 25 1 cs k ((List.range k).map fun j => .int .i64 ((codes s0 ds).getD j 0)) ∧ wx.ownsRow w.heap.size 38 1 du k ((List.range k).map us) ∧ ∀ b, du.ownBlock = some b → b < wx.heap.size := by
  have sz := hm.size
  simp at sz
  refine ⟨owns_block h.code fun b hb => ?_, owns_block h.due fun b hb => ?_, fun b hb => ?_⟩
  · have hl := (h.code.lt b hb).2
    exact (hm.block b (by simp; omega) (h.cd b hb).2).trans (Below.heap_alloc _ _ _ hl)
  · have hl := (h.due.lt b hb).2
    exact (hm.block b (by simp; omega) (h.dst b hb)).trans (Below.heap_alloc _ _ _ hl)
  · have hl := (h.due.lt b hb).2; omega
theorem pd_in2 {w wr wx w4 : World} {o o1 : Obj} {s0 s' : Sp} {ds : List Dd} {k : Nat} {cs du st st' dv : Value} {us : Nat → Value} {dl : List Tm} (h : Pd w wr s0 ds k cs du st us) (hm : Md w (wr.alloc o) wx s' dl st st' dv) (hg : (wx.alloc o1).grownBy w4 cs.ownBlock) :
    w4.ownsRow w.heap.size 38 1 du k ((List.range k).map us) ∧ w.heap.size ≤ w4.heap.size := by
  obtain ⟨h1, h2, h3⟩ := pd_in h hm
  have sz := hg.size
  simp at sz
  refine ⟨owns_block h2 fun b hb => ?_, by have := hm.below.size; omega⟩
  have hl := h3 b hb
  exact (hg.block b (by simp; omega) (fun c => (h.cd b c.symm).1 hb)).trans (Below.heap_alloc _ _ _ hl)
theorem soon_any {l : List Tm} {N b : Nat} (h : ∃ t, t ∈ l ∧ t.a ≤ N) (hb : Soon l b) : (l[b]'hb.1).a ≤ N := by
  obtain ⟨t, ht, hle⟩ := h
  obtain ⟨j, hj, e⟩ := List.getElem_of_mem ht
  have := hb.2.1 j hj
  rw [e] at this
  omega
/-- What is set lies as it lay, behind an append to what is due. -/
theorem po_al {w W1 wx w3 : World} {N : Nat} {s : Sp} {l pre : List Tm} {st st' dv : Value} {q : Nat} {o : Obj} (h : Po w W1 wx N s l pre st st' dv) (hg : ((wx.drewN q).alloc o).grownBy w3 dv.ownBlock) : AlAt w3 st' l := by
  refine al_own (owns_block h.md.set fun b hb => ?_)
  have hl := (h.md.set.lt b hb).2
  exact (hg.block b (by simp [World.drewN]; omega) (fun c => h.md.ne b c.symm hb)).trans (Below.heap_alloc (wx.drewN q) o b hl)
theorem po_due {w W1 wx : World} {N : Nat} {s : Sp} {l pre : List Tm} {st st' dv : Value} {p : Nat} (h : Po w W1 wx N s l pre st st' dv) (hp : pre.length = p) (q : Nat) : (wx.drewN q).ownsRow W1.heap.size 3 1 dv p (pre.map fun t => .int .i64 (t.i : Int)) := by
  subst hp
  exact owns_block h.md.due (fun _ _ => rfl)
end Go.Proofs.Ytccddjfcceclnaa
