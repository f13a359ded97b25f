/-
  The walk of LexBad.
-/
import Derived.Test.YtmnblopbelppbaaDoorX1
namespace Go.Proofs.YtmnblopbelppbaaDoor
open Go.ChangeShapes Go.WideShapes Go.ChangeAt Go.RowKit Go.Maps Go.Deep
set_option linter.unusedVariables false
set_option linter.unusedSimpArgs false
/-- Texts that are no tokens, and what they are refused for. -/
def odds : List (List UInt8) := [[34], [65], [49, 97], [48, 49], [95], [97, 98, 99, 100, 101, 102, 103, 104, 105, 106, 107], [34, 97, 97, 97, 97, 97, 97, 97, 97, 97, 97, 97, 97, 97, 97, 97, 97, 97, 97, 97, 97, 97, 34], [49, 49, 50, 53, 56, 57, 57, 57, 48, 54, 56, 52, 50, 54, 50, 53], [33]]
def oddE : List Int := [5, 4, 4, 4, 4, 1, 1, 2, 4]
def odA : Array Value := (odds.map fun m => Value.string (txt m)).toArray
def oeA : Array Value := (oddE.map fun m => Value.int .i64 m).toArray
theorem odd_at (x : Nat) (h : x < 9) : odA[x]? = some (.string (txt (odds.getD x []))) ∧ oeA[x]? = some (.int .i64 (oddE.getD x 0)) := by
  match x, h with
  | 0, _ => exact ⟨rfl, rfl⟩
  | 1, _ => exact ⟨rfl, rfl⟩
  | 2, _ => exact ⟨rfl, rfl⟩
  | 3, _ => exact ⟨rfl, rfl⟩
  | 4, _ => exact ⟨rfl, rfl⟩
  | 5, _ => exact ⟨rfl, rfl⟩
  | 6, _ => exact ⟨rfl, rfl⟩
  | 7, _ => exact ⟨rfl, rfl⟩
  | 8, _ => exact ⟨rfl, rfl⟩
  | n + 9, h => exact absurd h (by omega)
def oddOk (x : Nat) : Bool := decide (skd (odds.getD x []) = odds.getD x []) && decide ((rd (odds.getD x [])).e = oddE.getD x 0) && decide (oddE.getD x 0 ≠ 0) && decide ((odds.getD x []).length ≤ 30) && decide (odds.getD x [] ≠ [])
theorem odd_all : ((List.range 9).all oddOk) = true := by kernel_rfl
theorem odd_fact (x : Nat) (h : x < 9) : skd (odds.getD x []) = odds.getD x [] ∧ (rd (odds.getD x [])).e = oddE.getD x 0 ∧ oddE.getD x 0 ≠ 0 ∧ (odds.getD x []).length ≤ 30 ∧ odds.getD x [] ≠ [] := by
  have h1 := List.all_eq_true.1 odd_all x (List.mem_range.2 h)
  unfold oddOk at h1
  simp only [Bool.and_eq_true, decide_eq_true_eq] at h1
  exact ⟨h1.1.1.1.1, h1.1.1.1.2, h1.1.1.2, h1.1.2, h1.2⟩
theorem run_odd {ts : List Tk} (hf : ∀ t ∈ ts, tchk t = 0) (o : List UInt8) (e : Int) (h1 : skd o = o) (h2 : (rd o).e = e) (h3 : e ≠ 0) (h4 : o ≠ []) : Run (cat ts ++ o).length (skd (cat ts ++ o)) ts (cat ts).length e := by
  have hb : Run (cat ts ++ o).length (skd o) [] ((cat ts ++ o).length - o.length) (rd o).e := by
    rw [h1]
    exact Run.bad o h4 (by rw [h2]; exact h3)
  have h := run_cat hf hb
  rw [List.append_nil, h2] at h
  have e1 : (cat ts ++ o).length - o.length = (cat ts).length := by simp
  rw [e1] at h
  exact h
set_option maxHeartbeats 4000000 in
theorem lexBad_walk (v : Value) (l : List Pc) (wh : Int) (w : World) (hv : PiecesAt w v l) (hw : ∀ p ∈ l, wfP p) (hwh : wfI wh) (hM : Marks w) (hP : Pow w) :
    Calls Tryd.prog 8 #[v, .int .i64 wh] w fun e w' => e = .returned (.bool true) ∧ Below w.heap.size w w' := by
  have H1 : Hid (Calls Tryd.prog 16 #[v] w fun e w' => ∃ u ts, e = .returned u ∧ TokensAt w' u ts ∧ ts.length ≤ 40 ∧ (∀ t ∈ ts, tchk t = 0) ∧ Below w.heap.size w w') := tokens_any v l w hv hw
  have HM : Hid (Marks w) := hM
  have HP : Hid (Pow w) := hP
  obtain ⟨x, hx, hX⟩ := picked_const wh 9 9 rfl hwh (by omega) (by omega)
  have HX : Hid (∀ W, Calls Tryd.prog 18 #[.int .i64 wh, .int .i64 9] W fun e w' => e = .returned (.int .i64 x) ∧ w' = W) := hX
  clear hv hw hM hP hwh hX
  go_enter Tryd.func8, Tryd.ntmps8
  go_wp2_with fail
  refine H1.out.mono ?_
  rintro e w1 ⟨u, ts, rfl, hu, hl, hf, hb1⟩
  have HU : Hid (TokensAt w1 u ts) := hu
  obtain ⟨pu, cu, rfl, _⟩ := hu
  have HF : Hid (ts.length ≤ 40 ∧ ∀ t ∈ ts, tchk t = 0) := ⟨hl, hf⟩
  have HB1 : Hid (Below w.heap.size w w1) := hb1
  clear hl hf hb1 H1
  go_wp2_with fail
  refine (join_fine _ ts w1 HU.out (HM.out.below HB1.out) (HP.out.below HB1.out) (by have := HF.out.1; omega) HF.out.2).mono ?_
  rintro e w2 ⟨rfl, hb2⟩
  have HB2 : Hid (Below w.heap.size w w2) := below_trans HB1.out hb2 HB1.out.size
  clear hb2
  go_wp2_with fail
  refine (HX.out _).mono ?_
  rintro e w3 ⟨rfl, hw3⟩
  have hb3 : Below w2.heap.size w2 w3 := by rw [hw3]; exact ((Below.refl _ _).alloc (Nat.le_refl _) _).alloc (by simp) _
  have hs3 : w3.heap.size = w2.heap.size + 2 := by rw [hw3]; simp
  have hc0 : w3.cell? ⟨w2.heap.size, x, none⟩ = some (.string (txt (odds.getD x []))) := by
    rw [hw3]
    show ((w2.alloc (.cells odA 9)).alloc (.cells oeA 23)).cell? ⟨w2.heap.size, x, none⟩ = _
    rw [(below_new (w2.alloc (.cells odA 9)) _).cell (p := ⟨w2.heap.size, x, none⟩) (by simp), cell_of_row _ _ x odA 9 (0, 0) (heap_alloc_new _ _)]
    exact (odd_at x hx).1
  have hc1 : w3.cell? ⟨w2.heap.size + 1, x, none⟩ = some (.int .i64 (oddE.getD x 0)) := by
    rw [hw3]
    show ((w2.alloc (.cells odA 9)).alloc (.cells oeA 23)).cell? ⟨w2.heap.size + 1, x, none⟩ = _
    rw [cell_of_row _ _ x oeA 23 (0, 0) (heap_two _ _ _)]
    exact (odd_at x hx).2
  obtain ⟨g1, g2, g3, g4, g5⟩ := odd_fact x hx
  obtain ⟨o, ho⟩ : ∃ o, odds.getD x [] = o := ⟨_, rfl⟩
  obtain ⟨e0, he0⟩ : ∃ e0, oddE.getD x 0 = e0 := ⟨_, rfl⟩
  rw [ho] at g1 g2 g4 g5 hc0
  rw [he0] at g2 g3 hc1
  have HR := run_odd HF.out.2 o e0 g1 g2 g3 g5
  obtain ⟨y, hy⟩ : ∃ y, txt o = y := ⟨_, rfl⟩
  rw [hy] at hc0
  have hyl : (txt (cat ts) ++ y).data.toList = cat ts ++ o := by rw [cat_list, txt_list, ← hy, txt_list]
  have hys : (txt (cat ts) ++ y).size = (cat ts ++ o).length := by rw [← hyl]; simp
  have HB3 : Hid (Below w.heap.size w w3) := below_trans HB2.out hb3 HB2.out.size
  have HCUT : Hid (Calls Tryd.prog 9 #[.string (txt (cat ts) ++ y)] w3 fun e w' => ∃ p c, e = .returned (.tuple #[.slice p 0 c, .int .i64 ((cat ts).length : Nat), .int .i64 e0]) ∧ Below w3.heap.size w3 w') := by
    refine (cut_any (txt (cat ts) ++ y) w3 ts (cat ts).length e0 (HM.out.below HB3.out) ?_ ?_ ?_).mono ?_
    · rw [hys, List.length_append]
      have := cat_len ts HF.out.2
      have := HF.out.1
      omega
    · rw [hys, hyl]; exact HR
    · have := HF.out.1; omega
    · rintro e w' ⟨v, rfl, hv, hb⟩
      rw [if_neg g3] at hv
      obtain ⟨p, c, rfl, _⟩ := hv
      exact ⟨p, c, rfl, hb⟩
  have hts : (txt (cat ts)).size = (cat ts).length := txt_size _
  have i1 : (0 : Int) ≤ (x : Int) := by omega
  have i2 : (x : Int) < 9 := by omega
  have z1 : (cat ts).length ≤ 920 := by
    have := cat_len ts HF.out.2
    have := HF.out.1
    omega
  have z2 : y.size ≤ 30 := by rw [← hy, txt_size]; exact g4
  clear hw3 g1 g2 g3 g4 g5 ho he0 hy hyl hys HR
  have HS3 : Hid (w2.heap.size + 1 < w3.heap.size) := by rw [hs3]; exact Nat.lt_succ_self _
  clear hs3
  go_wp2_with fail
  refine HCUT.out.mono ?_
  rintro e w4 ⟨p4, c4, rfl, hb4⟩
  have d1 : w4.cell? ⟨w2.heap.size + 1, x, none⟩ = some (.int .i64 e0) := (hb4.cell (p := ⟨w2.heap.size + 1, x, none⟩) HS3.out).trans hc1
  have HB4 : Hid (Below w.heap.size w w4) := below_trans HB3.out hb4 HB3.out.size
  clear hb4 hb3 hc0 hc1
  go_wp2
  go_ret
  exact ⟨rfl, HB4.out⟩
end Go.Proofs.YtmnblopbelppbaaDoor
