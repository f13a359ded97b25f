/-
  Tokens of raw things.
-/
import Derived.Test.YtmnblopbelppbabDoorP
import Derived.Laws.IdiomStrings
namespace Go.Proofs.YtmnblopbelppbabDoor
open Go.ChangeShapes Go.WideShapes Go.ChangeAt Go.RowKit Go.Maps Go.Deep
set_option linter.unusedVariables false
set_option linter.unusedSimpArgs false
def pk (n m : Int) : Int := if 0 ≤ n then n % m else -((n + 1).tmod m)
theorem pk_bd (n m : Int) (hm : 0 < m) : 0 ≤ pk n m ∧ pk n m < m := by
  unfold pk
  split
  · exact ⟨Int.emod_nonneg n (by omega), Int.emod_lt_of_pos n hm⟩
  · have h2 := Int.tmod_lt_of_pos (-(n + 1)) hm
    have h1 := Int.tmod_nonneg m (by omega : 0 ≤ -(n + 1))
    rw [Int.neg_tmod] at h1 h2
    omega
theorem picked_any (n m : Int) (w : World) (hn1 : -9223372036854775808 ≤ n) (hn2 : n ≤ 9223372036854775807) (hm : 0 < m) (hm2 : m ≤ 1125899906842624) :
    Calls Tryd.prog 4 #[.int .i64 n, .int .i64 m] w fun e w' => e = .returned (.int .i64 (pk n m)) ∧ w' = w := by
  have hm0 : ¬ m = 0 := by omega
  unfold pk
  by_cases h : 0 ≤ n
  · simp only [h, if_true]
    go_enter Tryd.func4, Tryd.ntmps4
    go_wp2
    go_ret
    exact ⟨rfl, rfl⟩
  · have h' : n < 0 := by omega
    simp only [h, if_false]
    go_enter Tryd.func4, Tryd.ntmps4
    go_wp2
    go_ret
    exact ⟨rfl, rfl⟩
theorem picked_const (n M : Int) (m : Nat) (hM : M = m) (hn : wfI n) (hm : 0 < m) (hm2 : m ≤ 1125899906842624) : ∃ x : Nat, x < m ∧ ∀ W, Calls Tryd.prog 4 #[.int .i64 n, .int .i64 M] W fun e w' => e = .returned (.int .i64 x) ∧ w' = W := by
  subst hM
  have hb := pk_bd n m (by omega)
  obtain ⟨k, hk⟩ := Int.eq_ofNat_of_zero_le hb.1
  refine ⟨k, by omega, fun W => ?_⟩
  have := picked_any n m W hn.1 hn.2 (by omega) (by omega)
  rw [hk] at this
  exact this
/-- What lies in memory behind the first steps of Token: what came in, boxed, and the token to be. -/
structure Tb (w W : World) (s : ByteArray) (n : Int) : Prop where
  size : w.heap.size + 2 ≤ W.heap.size
  below : Below w.heap.size w W
  c1 : W.cell? ⟨w.heap.size, 1, none⟩ = some (.int .i64 n)
  c2 : W.cell? ⟨w.heap.size, 2, none⟩ = some (.string s)
  r0 : W.cell? ⟨w.heap.size + 1, 0, none⟩ = some (.int .i64 0)
  r1 : W.cell? ⟨w.heap.size + 1, 1, none⟩ = some (.string ⟨#[]⟩)
  r2 : W.cell? ⟨w.heap.size + 1, 2, none⟩ = some (.int .i64 0)
  f0 : W.frozen? ⟨w.heap.size + 1, 0, none⟩ = false
  f1 : W.frozen? ⟨w.heap.size + 1, 1, none⟩ = false
  f2 : W.frozen? ⟨w.heap.size + 1, 2, none⟩ = false
theorem Tb.on {w W W' : World} {s : ByteArray} {n : Int} (h : Tb w W s n) (b : Below (w.heap.size + 2) W W') : Tb w W' s n :=
  ⟨Nat.le_trans h.size b.size, below_trans h.below b (by omega), (b.cell (p := ⟨w.heap.size, 1, none⟩) (by simp)).trans h.c1, (b.cell (p := ⟨w.heap.size, 2, none⟩) (by simp)).trans h.c2,
    (b.cell (p := ⟨w.heap.size + 1, 0, none⟩) (by simp)).trans h.r0, (b.cell (p := ⟨w.heap.size + 1, 1, none⟩) (by simp)).trans h.r1, (b.cell (p := ⟨w.heap.size + 1, 2, none⟩) (by simp)).trans h.r2,
    (b.frozen (p := ⟨w.heap.size + 1, 0, none⟩) (by simp)).trans h.f0, (b.frozen (p := ⟨w.heap.size + 1, 1, none⟩) (by simp)).trans h.f1, (b.frozen (p := ⟨w.heap.size + 1, 2, none⟩) (by simp)).trans h.f2⟩
theorem res1 {P : Program} {fn : Func} {p : Tmp} {ty : TypeId} (h : fn.results = #[.cell p ty]) (tmps : Array Value) (w : World) (g : Nat) (cs : List Value) (d : TypeDesc)
    (hp : tmps.getD p undef = .pointer (some ⟨g, 0, none⟩)) (hc : w.rangeAt g 0 cs) (hu : P.underlying ty = some d) (hd : d.isRow = true) (hi : (P.info? ty).map (·.size) = some cs.length) :
    (results fn tmps).run P w = .ok (.agg cs.toArray) w := by
  have hp' : tmps[p]?.getD undef = .pointer (some ⟨g, 0, none⟩) := by simpa using hp
  simp [results, h, hp', asAddr, run_loadVar_mid w g 0 ty cs d hc hu hd hi]
theorem conv_own {w : World} {base : Nat} {v : Value} {bs : List UInt8} (h : w.ownsRow base 5 1 v bs.length (Lib.byteCells bs)) :
    (convert 34 9 v).run Tryd.prog w = .ok (.string (txt bs)) w := by
  rcases h.2 with ⟨rfl, h0⟩ | ⟨g, cap, cur, rfl, _, h2, _⟩
  · have e : bs = [] := List.eq_nil_of_length_eq_zero h0
    subst e
    rw [run_convert_bytes_string w 34 9 5 none 0 0 Tryd.underlying34 Tryd.underlying5 Tryd.underlying9]
    simp [Conv.bytesToString]
    rfl
  · exact run_convert_bytes_back w 34 9 5 ⟨g, 0, none⟩ cap bs Tryd.underlying34 Tryd.underlying5 Tryd.underlying9 (fun j hj => by
      rw [Addr.add_mid, Nat.zero_add, h.cellAt _ (by omega)]
      simp [Lib.byteCells, hj])
theorem tchk_num (x : Nat) (h : x ≤ 1125899906842624) : tchk ⟨2, txt [], x⟩ = 0 := by
  unfold tchk
  simp only
  rw [if_neg (by omega)]
  simp only [if_true, txt_list]
  rw [if_neg (by simp), if_neg (by omega)]
theorem tchk_mark (x : Nat) (hx : x < 17) : tchk ⟨4, txt (mkl.getD x []), 0⟩ = 0 := by
  unfold tchk
  simp only [txt_list]
  rw [if_neg (by omega), if_neg (by omega), if_neg (by omega)]
  simp only [if_true]
  rw [if_neg]
  rintro (h | h)
  · exact h rfl
  · exact h (at_in x hx)
theorem tchk_str (bs : List UInt8) (h : (34 : UInt8) ∉ bs) (hl : bs.length ≤ 20) : tchk ⟨3, txt bs, 0⟩ = 0 := by
  unfold tchk
  simp only [txt_list, txt_size]
  rw [if_neg (by omega), if_neg (by omega)]
  simp only [if_true]
  rw [if_neg, if_neg (by omega)]
  rintro (h2 | h2)
  · exact h2 rfl
  · exact h ((ib_iff _ _).1 h2)
theorem tchk_word (bs : List UInt8) (h : ∀ c ∈ bs, lw c = true) (h1 : 1 ≤ bs.length) (hl : bs.length ≤ 10) : tchk ⟨1, txt bs, 0⟩ = 0 := by
  unfold tchk
  simp only [if_true]
  rw [if_neg (by simp)]
  unfold nchk
  rw [txt_size, if_neg (by omega)]
  refine fst_all fun k hk => ?_
  unfold sgn
  rw [if_pos]
  left
  unfold byteN
  rw [txt_list, List.getD_eq_getElem?_getD, List.getElem?_eq_getElem hk]
  have := h bs[k] (List.getElem_mem hk)
  unfold lw at this
  unfold isL
  simp at this ⊢
  omega
theorem own_bytes {w wr W w3 : World} {u v : Value} {n base : Nat} {xs ys : List Value} (h : Below base w W) (hg : W.grownBy w3 u.ownBlock) (hs : base ≤ W.heap.size) (hr : W.ownsRow base 5 1 u n xs) : Below base w w3 :=
  h.grown hg hs (fun k hk => (hr.lt k hk).1)
theorem conv_x (W : World) : (convert 34 9 (.slice (some ⟨W.heap.size, 0, none⟩) 1 1)).run Tryd.prog (W.alloc (.cells #[.int .u8 120] 5)) = .ok (.string (txt [120])) (W.alloc (.cells #[.int .u8 120] 5)) :=
  run_convert_bytes_back _ 34 9 5 ⟨W.heap.size, 0, none⟩ 1 [120] Tryd.underlying34 Tryd.underlying5 Tryd.underlying9 (fun j hj => by
    obtain rfl : j = 0 := by simpa using hj
    rw [Addr.add_mid]
    simp [go_sem])
end Go.Proofs.YtmnblopbelppbabDoor
