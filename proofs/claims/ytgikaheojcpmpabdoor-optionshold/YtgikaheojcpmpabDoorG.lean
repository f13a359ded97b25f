/-
  A free matrix, by the program.
-/
import Derived.Test.YtgikaheojcpmpabDoorD
import Derived.Test.YtgikaheojcpmpabDoorE
namespace Go.Proofs.YtgikaheojcpmpabDoor
open Go.ChangeShapes Go.WideShapes Go.ChangeAt Go.RowKit Go.Maps
set_option linter.unusedVariables false
set_option linter.unusedSimpArgs false
set_option maxRecDepth 20000
/-- The free matrix. -/
def fre : Nat → Nat → Int := fun i k => if i = k then 0 else 1152921504606846976
/-- The outer row when r rows are made. -/
def topF (N n r : Nat) : Nat → Value := fun j => if j < r then .slice (some ⟨N + 1 + j, 0, none⟩) n n else .slice none 0 0
structure OutF (w wr : World) (n r : Nat) : Prop where
  since : Below w.heap.size w wr
  size : wr.heap.size = w.heap.size + 1 + r
  top : wr.rowIs w.heap.size 36 n (topF w.heap.size n r)
  done : ∀ j, j < r → wr.rowIs (w.heap.size + 1 + j) 3 n (fun c => .int .i64 (fre j c))
structure InF (w wi : World) (n r c : Nat) : Prop where
  since : Below w.heap.size w wi
  size : wi.heap.size = w.heap.size + 1 + r + 1
  top : wi.rowIs w.heap.size 36 n (topF w.heap.size n (r + 1))
  done : ∀ j, j < r → wi.rowIs (w.heap.size + 1 + j) 3 n (fun c => .int .i64 (fre j c))
  cur : wi.rowIs (w.heap.size + 1 + r) 3 n (fun i => if i < c then .int .i64 1152921504606846976 else .int .i64 0)
theorem outF_start (w : World) (n : Nat) : OutF w (w.alloc (.cells (madeCells #[.slice none 0 0] n) 36)) n 0 :=
  ⟨(Below.refl _ _).alloc (Nat.le_refl _) _, by simp, (World.rowIs_made w _ n 36).congr (fun j _ => by simp [topF]), fun j hj => absurd hj (Nat.not_lt_zero _)⟩
theorem inF_start {w wr : World} {n r : Nat} (h : OutF w wr n r) :
    InF w ((wr.alloc (.cells (madeCells #[.int .i64 0] n) 3)).setCell ⟨w.heap.size, r, none⟩ (.slice (some ⟨w.heap.size + 1 + r, 0, none⟩) n n)) n r 0 := by
  have hnew := World.rowIs_made wr (.int .i64 0) n 3
  rw [h.size] at hnew
  refine ⟨(h.since.alloc (by rw [h.size]; omega) _).setCell (Nat.le_refl _) _, by simp [h.size], ((h.top.alloc _).set r _).congr (fun j _ => ?_), fun j hj => ((h.done j hj).alloc _).setOther (by show w.heap.size + 1 + j ≠ w.heap.size; omega) _,
    (hnew.setOther (by show w.heap.size + 1 + r ≠ w.heap.size; omega) _).congr (fun i _ => by simp)⟩
  simp only [topF]
  by_cases e : j = r
  · subst e; simp
  · rw [if_neg e]
    by_cases hlt : j < r
    · rw [if_pos hlt, if_pos (by omega)]
    · rw [if_neg hlt, if_neg (by omega)]
theorem inF_step {w wi : World} {n r c : Nat} (h : InF w wi n r c) : InF w (wi.setCell ⟨w.heap.size + 1 + r, c, none⟩ (.int .i64 1152921504606846976)) n r (c + 1) := by
  refine ⟨h.since.setCell (by show w.heap.size ≤ w.heap.size + 1 + r; omega) _, by simp [h.size], h.top.setOther (by show w.heap.size ≠ w.heap.size + 1 + r; omega) _,
    fun j hj => (h.done j hj).setOther (by show w.heap.size + 1 + j ≠ w.heap.size + 1 + r; omega) _, (h.cur.set c _).congr (fun i _ => ?_)⟩
  by_cases e : i = c
  · subst e; simp
  · rw [if_neg e]
    by_cases hlt : i < c
    · rw [if_pos hlt, if_pos (by omega)]
    · rw [if_neg hlt, if_neg (by omega)]
theorem inF_done {w wi : World} {n r : Nat} (h : InF w wi n r n) : OutF w (wi.setCell ⟨w.heap.size + 1 + r, r, none⟩ (.int .i64 0)) n (r + 1) := by
  refine ⟨h.since.setCell (by show w.heap.size ≤ w.heap.size + 1 + r; omega) _, by simp [h.size]; omega, h.top.setOther (by show w.heap.size ≠ w.heap.size + 1 + r; omega) _, fun j hj => ?_⟩
  by_cases e : j = r
  · subst e
    refine (h.cur.set j _).congr (fun i hi => ?_)
    by_cases c : i = j
    · subst c; simp [fre]
    · have c2 : ¬ j = i := fun h => c h.symm
      rw [if_neg c, if_pos hi]; simp [fre, c2]
  · exact (h.done j (by omega)).setOther (by show w.heap.size + 1 + j ≠ w.heap.size + 1 + r; omega) _
theorem OutF.new {w w' : World} {n : Nat} (h : OutF w w' n n) (hn : n ≤ 12) : New w w' (.slice (some ⟨w.heap.size, 0, none⟩) n n) n (fun _ => n) fre := by
  refine ⟨_, n, w.heap.size, fun j => w.heap.size + 1 + j, fun _ => n, rfl, fun _ => rfl, Nat.le_refl _, by unfold maxLen; omega, Nat.le_refl _, fun i hi _ => by omega, fun i hi _ => by show w.heap.size + 1 + i ≠ w.heap.size; omega, fun i j hi hj _ _ e => by have : w.heap.size + 1 + i = w.heap.size + 1 + j := e; omega, fun i hi => ⟨Nat.le_refl _, by unfold maxLen; omega⟩, fun i hi => ?_, fun i hi _ => ?_⟩
  · refine ⟨_, ?_, fun _ => rfl⟩
    have := h.top.cell hi
    rw [this]
    simp [topF, hi]
  · obtain ⟨c, h1, h2, h3⟩ := h.done i hi
    exact ⟨c, _, h1, h3⟩
set_option maxHeartbeats 8000000 in
theorem free_any (n : Nat) (w : World) (hn : n ≤ 12) :
    Calls Tryd.prog 24 #[.int .i64 (n : Int)] w fun e w' => (∃ V, e = .returned V ∧ New w w' V n (fun _ => n) fre) ∧ Below w.heap.size w w' := by
  have hmk := run_make_row' (P := Tryd.prog) 27 36 (.slice none 0 0) 24 Tryd.underlying27 infoR rfl .i64 .i64 n (by omega) (by omega)
  have HN := hid hn
  have hmx : (n : Int) ≤ 12 := by omega
  go_enter Tryd.func24, Tryd.ntmps24
  go_wp2
  clear hmk
  go_loopg [10] n (fun gg i wr => ∃ r : Nat, r ≤ n ∧ gg = n - r ∧ i = .int .i64 (r : Nat) ∧ OutF w wr n r)
  case atStart => exact ⟨0, by omega, by omega, rfl, outF_start w n⟩
  case round =>
    obtain ⟨r, hr, rfl, rfl, hO⟩ := hrel
    by_cases hrn : r < n
    · have i1 : (0 : Int) ≤ (r : Int) := by omega
      have i2 : (r : Int) < (n : Int) := by omega
      have hsize := hO.size
      have hmk := run_make_row' (P := Tryd.prog) 36 3 (.int .i64 0) 8 Tryd.underlying36 infoI rfl .i64 .i64 n (by omega) (by omega)
      have hst1 : ∀ o, (wr.alloc o).cell? ⟨w.heap.size, r, none⟩ = some (topF w.heap.size n r r) := fun o => (hO.top.alloc o).cell hrn
      have hst2 : ∀ o, (wr.alloc o).frozen? ⟨w.heap.size, r, none⟩ = false := fun o => (hO.top.alloc o).frozen r
      have hI0 := inF_start hO
      have HI0 := hid hI0
      have g0 := (hI0.top.cell hrn)
      rw [show topF w.heap.size n (r + 1) r = .slice (some ⟨w.heap.size + 1 + r, 0, none⟩) n n by simp [topF]] at g0
      clear hI0 hO
      go_wp2
      clear hmk hst1 hst2 hsize g0
      go_loopg [23] n (fun gg i wi => ∃ c : Nat, c ≤ n ∧ gg = n - c ∧ i = .int .i64 (c : Nat) ∧ InF w wi n r c)
      case atStart => exact ⟨0, by omega, by omega, rfl, HI0.out⟩
      case round =>
        obtain ⟨c, hc, rfl, rfl, hI⟩ := hrel
        clear HI0
        have g0 := (hI.top.cell hrn)
        rw [show topF w.heap.size n (r + 1) r = .slice (some ⟨w.heap.size + 1 + r, 0, none⟩) n n by simp [topF]] at g0
        by_cases hcn : c < n
        · have j1 : (0 : Int) ≤ (c : Int) := by omega
          have j2 : (c : Int) < (n : Int) := by omega
          have t4 : wr.cell? ⟨w.heap.size + 1 + r, c, none⟩ = some (.int .i64 0) := by simpa using hI.cur.cell hcn
          have t5 : wr.frozen? ⟨w.heap.size + 1 + r, c, none⟩ = false := hI.cur.frozen c
          have HI := hid (inF_step hI)
          clear hI
          go_wp2
          go_roundg (n - (c + 1))
          case rel => exact ⟨c + 1, by omega, rfl, by go_num, HI.out⟩
          case measure => omega
        · obtain rfl : c = n := by omega
          have t4 : wr.cell? ⟨w.heap.size + 1 + r, r, none⟩ = some (.int .i64 1152921504606846976) := by simpa [hrn] using hI.cur.cell hrn
          have t5 : wr.frozen? ⟨w.heap.size + 1 + r, r, none⟩ = false := hI.cur.frozen r
          have HI := hid (inF_done hI)
          clear hI
          go_wp2
          go_roundg (c - (r + 1))
          case rel => exact ⟨r + 1, by omega, rfl, by go_num, HI.out⟩
          case measure => omega
    · obtain rfl : r = n := by omega
      have HO := hid hO
      clear hO
      go_wp2
      go_ret
      exact ⟨⟨_, rfl, HO.out.new HN.out⟩, HO.out.since⟩
end Go.Proofs.YtgikaheojcpmpabDoor
