/-
  The document's play, under way: what lies in memory between two deeds, and within one.
-/
import Derived.Test.YtccddjfcceclnaaSr
namespace Go.Proofs.Ytccddjfcceclnaa
open Go.ChangeShapes Go.WideShapes Go.ChangeAt Go.RowKit Go.Maps
set_option linter.unusedVariables false
set_option linter.unusedSimpArgs false
/-- A Bool that tells whether P holds. -/
def Say (b : Bool) (P : Prop) : Prop := b = true ↔ P
theorem bool_of (P : Prop) [Decidable P] : ∃ b : Bool, Say b P := ⟨decide P, by simp [Say]⟩
theorem Say.yes {P : Prop} (h : P) : Say true P := by simp [Say, h]
theorem Say.no {P : Prop} (h : ¬ P) : Say false P := by simp [Say, h]
theorem rbool {a b : Bool} (h : a = b) : Ending.returned (.bool a) = .returned (.bool b) := by rw [h]
theorem in_any (a b c : Int) (r : Bool) (h : Say r (b ≤ a ∧ a ≤ c)) (w : World) :
    Calls Try.prog 19 #[.int .i64 a, .int .i64 b, .int .i64 c] w fun e w' => e = .returned (.bool r) ∧ w' = w := by
  have H : Hid (Say r (b ≤ a ∧ a ≤ c)) := h
  clear h
  go_enter Try.func19, Try.ntmps19
  go_wp2
  all_goals
    go_ret
    exact ⟨rbool (by have h := H.out; unfold Say at h; rw [Bool.eq_iff_iff, h]; simp <;> omega), rfl⟩
theorem timeMay_any (a : Int) (r : Bool) (h : Say r (0 ≤ a ∧ a ≤ 1099511627776)) (w : World) :
    Calls Try.prog 18 #[.int .i64 a] w fun e w' => e = .returned (.bool r) ∧ w' = w := by
  have H : Hid (Say r (0 ≤ a ∧ a ≤ 1099511627776)) := h
  clear h
  go_enter Try.func18, Try.ntmps18
  go_wp2_with (go_at_call 19; refine (in_any _ _ _ _ H.out _).mono ?_; rintro e w ⟨rfl, rfl⟩)
  go_ret
  exact ⟨rfl, rfl⟩
/-- Between two deeds: the codes, the rows that were due, the alarms that are set. -/
structure Pd (w wr : World) (s0 : Sp) (ds : List Dd) (k : Nat) (cs du st : Value) (us : Nat → Value) : Prop where
  code : wr.ownsRow w.heap.size 25 1 cs k ((List.range k).map fun j => .int .i64 ((codes s0 ds).getD j 0))
  due : wr.ownsRow w.heap.size 38 1 du k ((List.range k).map us)
  set : wr.ownsRow w.heap.size 56 2 st (after s0 (ds.take k)).L.length ((after s0 (ds.take k)).L.flatMap encA)
  row : ∀ j, j < k → IntsAt wr (us j) ((rows s0 ds).getD j [])
  sep : ∀ j, j < k → ∀ b, (us j).ownBlock = some b → w.heap.size ≤ b ∧ cs.ownBlock ≠ some b ∧ du.ownBlock ≠ some b ∧ st.ownBlock ≠ some b
  cd : ∀ b, cs.ownBlock = some b → du.ownBlock ≠ some b ∧ st.ownBlock ≠ some b
  dst : ∀ b, du.ownBlock = some b → st.ownBlock ≠ some b
  below : Below w.heap.size w wr
theorem pd_start (w : World) (s0 : Sp) (ds : List Dd) (h : s0.L = []) : Pd w w s0 ds 0 (.slice none 0 0) (.slice none 0 0) (.slice none 0 0) (fun _ => .slice none 0 0) where
  code := by simpa using World.ownsRow_nil w w.heap.size 25 1
  due := by simpa using World.ownsRow_nil w w.heap.size 38 1
  set := by simpa [after, h] using World.ownsRow_nil w w.heap.size 56 2
  row j hj := by omega
  sep j hj := by omega
  cd b hb := by cases hb
  dst b hb := by cases hb
  below := Below.refl _ _
/-- Within a deed, behind its own part: the alarms that are set then, what is due by it. -/
structure Md (w W1 wx : World) (s' : Sp) (dl : List Tm) (st st' dv : Value) : Prop where
  set : wx.ownsRow w.heap.size 56 2 st' s'.L.length (s'.L.flatMap encA)
  due : wx.ownsRow W1.heap.size 3 1 dv dl.length (dl.map fun t => .int .i64 (t.i : Int))
  fr : ∀ b, st'.ownBlock = some b → st.ownBlock = some b ∨ W1.heap.size ≤ b
  ne : ∀ b, dv.ownBlock = some b → st'.ownBlock ≠ some b
  size : W1.heap.size ≤ wx.heap.size
  block : ∀ b, b < W1.heap.size → st.ownBlock ≠ some b → wx.heap[b]? = W1.heap[b]?
  below : Below w.heap.size w wx
theorem ints_own {w : World} {B : Nat} {v : Value} {l : List Tm} (h : w.ownsRow B 3 1 v l.length (l.map fun t => .int .i64 (t.i : Int))) (hl : l.length ≤ 1000) : IntsAt w v (l.map fun t => (t.i : Int)) := by
  rcases h.2 with ⟨h1, h2⟩ | ⟨g, cap, cur, rfl, h1, h2, _⟩
  · left
    have : l = [] := List.eq_nil_of_length_eq_zero h2
    subst this
    exact ⟨h1, rfl⟩
  · right
    have hlt := (Array.getElem?_eq_some_iff.1 h2).1
    refine ⟨g, cap, by simp, hlt, by simpa using hl, fun j z hj => ?_⟩
    have hjl : j < l.length := by have := (List.getElem?_eq_some_iff.1 hj).1; simpa using this
    have hc := h.cellAt j (by omega)
    rw [hc]
    simp [List.getElem?_eq_getElem hjl] at hj ⊢
    exact hj
theorem code_at {s0 : Sp} {ds : List Dd} {k : Nat} (hk : k < ds.length) : (codes s0 ds).getD k 0 = (step (after s0 (ds.take k)) ds[k]).1 := by
  unfold codes
  rw [List.getD_eq_getElem?_getD, List.getElem?_map, play_at s0 ds k hk]
  rfl
theorem row_at {s0 : Sp} {ds : List Dd} {k : Nat} (hk : k < ds.length) : (rows s0 ds).getD k [] = (step (after s0 (ds.take k)) ds[k]).2.1.map fun t => (t.i : Int) := by
  unfold rows
  rw [List.getD_eq_getElem?_getD, List.getElem?_map, play_at s0 ds k hk]
  rfl
/-- A deed is done: its code and its row are appended. -/
theorem Pd.step {w wr W1 wx w4 w5 : World} {s0 : Sp} {ds : List Dd} {k : Nat} {cs du st st' dv cs' du' : Value} {us : Nat → Value} {q : Int} {dl : List Tm} {s' : Sp} {o1 o2 : Obj}
    (h : Pd w wr s0 ds k cs du st us) (hk : k < ds.length) (hst : step (after s0 (ds.take k)) ds[k] = (q, dl, s')) (b1 : Below wr.heap.size wr W1) (hm : Md w W1 wx s' dl st st' dv) (hdl : dl.length ≤ 1000)
    (hc : w4.ownsRow w.heap.size 25 1 cs' (k + 1) (((List.range k).map fun j => .int .i64 ((codes s0 ds).getD j 0)) ++ [.int .i64 q])) (hcg : (wx.alloc o1).grownBy w4 cs.ownBlock) (hca : cs'.ownBlock = cs.ownBlock ∨ cs'.ownBlock = some (wx.alloc o1).heap.size)
    (hd : w5.ownsRow w.heap.size 38 1 du' (k + 1) ((List.range k).map us ++ [dv])) (hdg : (w4.alloc o2).grownBy w5 du.ownBlock) (hda : du'.ownBlock = du.ownBlock ∨ du'.ownBlock = some (w4.alloc o2).heap.size) :
    Pd w w5 s0 ds (k + 1) cs' du' st' (fun j => if j = k then dv else us j) := by
  have s1 : wr.heap.size ≤ W1.heap.size := b1.size
  have s2 := hm.size
  have s3 : wx.heap.size + 1 ≤ w4.heap.size := by have := hcg.size; simp at this; exact this
  have s4 : w4.heap.size + 1 ≤ w5.heap.size := by have := hdg.size; simp at this; exact this
  have hs0 := h.below.size
  -- blocks of wr other than the three rows stay
  have k4 : ∀ b, b < wx.heap.size → cs.ownBlock ≠ some b → w4.heap[b]? = wx.heap[b]? := fun b hb hn => by
    have h1 := hcg.block b (by simp; omega) (fun c => hn c.symm)
    exact h1.trans (((Below.refl _ wx).alloc (Nat.le_refl _) o1).block b hb)
  have k5 : ∀ b, b < w4.heap.size → du.ownBlock ≠ some b → w5.heap[b]? = w4.heap[b]? := fun b hb hn => by
    have h1 := hdg.block b (by simp; omega) (fun c => hn c.symm)
    exact h1.trans (((Below.refl _ w4).alloc (Nat.le_refl _) o2).block b hb)
  have cslt : ∀ b, cs.ownBlock = some b → b < wr.heap.size := fun b hb => (h.code.lt b hb).2
  have dult : ∀ b, du.ownBlock = some b → b < wr.heap.size := fun b hb => (h.due.lt b hb).2
  have stlt : ∀ b, st.ownBlock = some b → b < wr.heap.size := fun b hb => (h.set.lt b hb).2
  have st'x : ∀ b, st'.ownBlock = some b → b < wx.heap.size ∧ cs.ownBlock ≠ some b ∧ du.ownBlock ≠ some b := fun b hb => by
    have hx := (hm.set.lt b hb).2
    rcases hm.fr b hb with c | c
    · exact ⟨hx, fun e => (h.cd b e).2 c, fun e => h.dst b e c⟩
    · exact ⟨hx, fun e => by have := cslt b e; omega, fun e => by have := dult b e; omega⟩
  have dvx : ∀ b, dv.ownBlock = some b → b < wx.heap.size ∧ W1.heap.size ≤ b ∧ cs.ownBlock ≠ some b ∧ du.ownBlock ≠ some b := fun b hb => by
    have hx := hm.due.lt b hb
    exact ⟨hx.2, hx.1, fun e => by have := cslt b e; omega, fun e => by have := dult b e; omega⟩
  have cs'x : ∀ b, cs'.ownBlock = some b → cs.ownBlock = some b ∨ b = wx.heap.size + 1 := fun b hb => by
    rcases hca with c | c
    · left; rw [← c]; exact hb
    · right; rw [c] at hb; simp at hb; omega
  have du'x : ∀ b, du'.ownBlock = some b → du.ownBlock = some b ∨ b = w4.heap.size + 1 := fun b hb => by
    rcases hda with c | c
    · left; rw [← c]; exact hb
    · right; rw [c] at hb; simp at hb; omega
  refine ⟨?_, ?_, ?_, fun j hj => ?_, fun j hj b hb => ?_, fun b hb => ?_, fun b hb => ?_, ?_⟩
  · have e : (List.range (k + 1)).map (fun j => Value.int .i64 ((codes s0 ds).getD j 0)) = ((List.range k).map fun j => .int .i64 ((codes s0 ds).getD j 0)) ++ [.int .i64 q] := by
      rw [List.range_succ, List.map_append, List.map_singleton, code_at hk, hst]
    rw [e]
    refine owns_block hc (fun b hb => k5 b (hc.lt b hb).2 (fun e2 => ?_))
    rcases cs'x b hb with c | c
    · exact (h.cd b c).1 e2
    · have := dult b e2; omega
  · have e : (List.range (k + 1)).map (fun j => if j = k then dv else us j) = (List.range k).map us ++ [dv] := by
      rw [List.range_succ, List.map_append, List.map_singleton, if_pos rfl]
      congr 1
      refine List.map_congr_left fun j hj => ?_
      have : j < k := by simpa using hj
      rw [if_neg (by omega)]
    rw [e]; exact hd
  · rw [after_step s0 ds k hk, hst]
    refine owns_block hm.set (fun b hb => ?_)
    obtain ⟨x1, x2, x3⟩ := st'x b hb
    exact (k5 b (by omega) x3).trans (k4 b x1 x2)
  · by_cases e : j = k
    · subst e
      rw [row_at hk, hst]
      simp only [if_true]
      refine (ints_own hm.due hdl).block (by omega) (fun b hb _ => ?_)
      obtain ⟨x1, x2, x3, x4⟩ := dvx b hb
      exact (k5 b (by omega) x4).trans (k4 b x1 x3)
    · simp only [e, if_false]
      have hj' : j < k := by omega
      refine (h.row j hj').block (by omega) (fun b hb hlt => ?_)
      obtain ⟨_, y1, y2, y3⟩ := h.sep j hj' b hb
      exact (k5 b (by omega) y2).trans ((k4 b (by omega) y1).trans ((hm.block b (by omega) y3).trans (b1.block b hlt)))
  · by_cases e : j = k
    · subst e
      simp only [if_true] at hb
      obtain ⟨x1, x2, x3, x4⟩ := dvx b hb
      refine ⟨by omega, fun c => ?_, fun c => ?_, hm.ne b hb⟩
      · rcases cs'x b c with c2 | c2
        · exact x3 c2
        · omega
      · rcases du'x b c with c2 | c2
        · exact x4 c2
        · omega
    · simp only [e, if_false] at hb
      have hj' : j < k := by omega
      obtain ⟨y0, y1, y2, y3⟩ := h.sep j hj' b hb
      have hlt := (h.row j hj').lt hb
      refine ⟨y0, fun c => ?_, fun c => ?_, fun c => ?_⟩
      · rcases cs'x b c with c2 | c2
        · exact y1 c2
        · omega
      · rcases du'x b c with c2 | c2
        · exact y2 c2
        · omega
      · rcases hm.fr b c with c2 | c2
        · exact y3 c2
        · omega
  · refine ⟨fun c => ?_, fun c => ?_⟩
    · rcases cs'x b hb with c1 | c1 <;> rcases du'x b c with c2 | c2
      · exact (h.cd b c1).1 c2
      · have := cslt b c1; omega
      · have := dult b c2; omega
      · omega
    · obtain ⟨x1, x2, x3⟩ := st'x b c
      rcases cs'x b hb with c1 | c1
      · exact x2 c1
      · omega
  · intro c
    obtain ⟨x1, x2, x3⟩ := st'x b c
    rcases du'x b hb with c1 | c1
    · exact x3 c1
    · omega
  · have hb4 : Below w.heap.size w w4 := (hm.below.alloc hm.below.size o1).grown hcg (by have := hm.below.size; simp; omega) (fun b hb => (h.code.lt b hb).1)
    exact (hb4.alloc hb4.size o2).grown hdg (by have := hb4.size; simp; omega) (fun b hb => (h.due.lt b hb).1)
/-- All deeds are done. -/
theorem Pd.done {w wr : World} {s0 : Sp} {ds : List Dd} {n : Nat} {cs du st : Value} {us : Nat → Value} (h : Pd w wr s0 ds n cs du st us) (hn : ds.length = n) : ListAt wr cs (codes s0 ds) ∧ RowsAt wr du (rows s0 ds) := by
  have l1 : (codes s0 ds).length = n := by unfold codes; rw [List.length_map, play_len, hn]
  have l2 : (rows s0 ds).length = n := by unfold rows; rw [List.length_map, play_len, hn]
  refine ⟨?_, ?_⟩
  · rcases h.code.2 with ⟨c1, c2⟩ | ⟨g, cap, cur, c1, _, c2, _⟩
    · left; exact ⟨c1, List.eq_nil_of_length_eq_zero (by omega)⟩
    · right
      refine ⟨g, cap, by rw [c1, l1], (Array.getElem?_eq_some_iff.1 c2).1, fun j z hj => ?_⟩
      have hlt := (List.getElem?_eq_some_iff.1 hj).1
      have hrow := h.code
      rw [c1] at hrow
      rw [hrow.cellAt j (by omega)]
      simp [show j < n by omega, hj]
  · rcases h.due.2 with ⟨c1, c2⟩ | ⟨g, cap, cur, c1, _, c2, _⟩
    · left; exact ⟨c1, List.eq_nil_of_length_eq_zero (by omega)⟩
    · right
      refine ⟨g, cap, us, by rw [c1, l2], (Array.getElem?_eq_some_iff.1 c2).1, fun j hj => ⟨?_, ?_⟩⟩
      · have hrow := h.due
        rw [c1] at hrow
        rw [hrow.cellAt j (by omega)]
        simp [show j < n by omega]
      · have := (h.row j (by omega)).list
        rw [List.getD_eq_getElem?_getD, List.getElem?_eq_getElem hj] at this
        exact this
end Go.Proofs.Ytccddjfcceclnaa
