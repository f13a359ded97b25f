/-
  The walk of FitKinds.
-/
import Derived.Test.YthenkpeibkpmkabX
import Derived.Test.YthenkpeibkpmkabL
namespace Go.Proofs.Ythenkpeibkpmkab
open Go.ChangeShapes Go.WideShapes Go.ChangeAt Go.RowKit Go.Maps Go.Deep
set_option linter.unusedVariables false
set_option linter.unusedSimpArgs false
/-- Bools that came in. -/
def BoolsAt (w : World) (v : Value) (l : List Bool) : Prop :=
  ∃ p cap, v = .slice p l.length cap ∧ l.length ≤ cap ∧ cap ≤ maxLen ∧ (0 < l.length → ∃ g off, p = some ⟨g, off, none⟩ ∧ ∀ j (hj : j < l.length), g < w.heap.size ∧ w.cell? ⟨g, off + j, none⟩ = some (.bool l[j]))
theorem BoolsAt.below {w w' : World} {v : Value} {l : List Bool} (h : BoolsAt w v l) (b : Below w.heap.size w w') : BoolsAt w' v l := by
  obtain ⟨p, cap, h1, hc, hm, h2⟩ := h
  refine ⟨p, cap, h1, hc, hm, fun h0 => ?_⟩
  obtain ⟨g, off, h3, h4⟩ := h2 h0
  exact ⟨g, off, h3, fun j hj => ⟨Nat.lt_of_lt_of_le (h4 j hj).1 b.size, (b.cell (p := ⟨g, off + j, none⟩) (h4 j hj).1).trans (h4 j hj).2⟩⟩
def fK (l : List Bool) (i : Nat) : Int := if l.getD i false = true then 2 else 1
theorem fK_two (l : List Bool) (i : Nat) : fK l i = 1 ∨ fK l i = 2 := by unfold fK; split <;> simp
/-- Values of the kinds that bools tell, that may be. -/
def VsOk (vs : List Vl) (l : List Bool) : Prop := ∀ i (h : i < vs.length), VOk vs[i] (l.getD i false)
theorem VsOk.nil (l : List Bool) : VsOk [] l := fun i h => by simp at h
theorem VsOk.snoc {vs : List Vl} {l : List Bool} (h : VsOk vs l) (v : Vl) (hv : VOk v (l.getD vs.length false)) : VsOk (vs ++ [v]) l := fun i hi => by
  by_cases c : i < vs.length
  · rw [List.getElem_append_left c]; exact h i c
  · have : i = vs.length := by simp at hi; omega
    subst this
    simpa using hv
theorem vat_ok {vs : List Vl} {l : List Bool} (h : VsOk vs l) : fst (vat vs) vs.length = 0 := fst_all fun i hi => by
  rw [vat_at hi]; exact (h i hi).1
/-- Whether all of the first n are the same. -/
def sameB (a b : List Bool) (n : Nat) : Bool := (List.range n).all fun i => a.getD i false == b.getD i false
theorem sameB_succ (a b : List Bool) (n : Nat) : sameB a b (n + 1) = (sameB a b n && (a.getD n false == b.getD n false)) := by
  simp [sameB, List.range_succ, List.all_append]
theorem kind_eq {v : Vl} {b c : Bool} (hv : VOk v b) : (v.k = if c = true then 2 else 1) ↔ b = c := by
  rw [hv.2]; cases b <;> cases c <;> simp
theorem fit_same {vs : List Vl} {ks os : List Bool} {k : Nat} (hk : k ≤ 4) (hv : VsOk vs os) : fit ⟨tN, fdsG (fK ks) k⟩ vs = if vs.length = k ∧ sameB os ks k = true then 0 else 13 := by
  unfold fit
  rw [tchk_fds (fK ks) k hk (fun i _ => fK_two ks i), if_neg (by simp), vat_ok hv, if_neg (by simp)]
  simp only [fdsG_len]
  by_cases hl : vs.length = k
  · rw [if_neg (by simp [hl])]
    have hat : ∀ i, i < k → kat vs (fdsG (fK ks) k) i = if os.getD i false = ks.getD i false then 0 else 13 := fun i hi => by
      rw [kat_at (by omega) (by rw [fdsG_len]; exact hi)]
      have e : ((fdsG (fK ks) k)[i]'(by rw [fdsG_len]; exact hi)).k = fK ks i := by simp [fdsG]
      rw [e]
      have hq := kind_eq (c := ks.getD i false) (hv i (by omega))
      unfold fK
      by_cases c : os.getD i false = ks.getD i false
      · rw [if_pos c, if_neg (by rw [ne_eq, Classical.not_not]; exact hq.2 c)]
      · rw [if_neg c, if_pos (fun h => c (hq.1 h))]
    rw [hl]
    by_cases hs : sameB os ks k = true
    · rw [if_pos ⟨rfl, hs⟩]
      refine fst_all fun i hi => ?_
      rw [hat i hi, if_pos]
      simp [sameB] at hs
      simpa using hs i hi
    · rw [if_neg (fun h => hs h.2)]
      have hz : fst (kat vs (fdsG (fK ks) k)) k ≠ 0 := fun h => hs (by
        simp only [sameB, List.all_eq_true, List.mem_range, beq_iff_eq]
        intro i hi
        have := fst_zero h i hi
        rw [hat i hi] at this
        by_cases c : os.getD i false = ks.getD i false
        · exact c
        · rw [if_neg c] at this; omega)
      have h13 : ∀ n, n ≤ k → fst (kat vs (fdsG (fK ks) k)) n = 0 ∨ fst (kat vs (fdsG (fK ks) k)) n = 13 := by
        intro n
        induction n with
        | zero => intro _; left; rfl
        | succ n ih =>
          intro hn
          unfold fst
          rcases ih (by omega) with h | h
          · rw [if_neg (by simp [h]), hat n (by omega)]
            split <;> simp
          · rw [if_pos (by rw [h]; omega)]
            right; exact h
      rcases h13 k (Nat.le_refl _) with h | h
      · exact absurd h hz
      · exact h
  · rw [if_pos hl, if_neg (fun h => hl h.1)]
theorem cells1 {w : World} {base : Nat} {a : Addr} {cs : List Value} (h : w.cells? base a 1 = some cs) : ∃ x, cs = [x] ∧ w.cell? (a.add 0) = some x := by
  unfold World.cells? at h
  split at h
  · simp [List.range_succ, List.mapM_cons] at h
    cases h0 : w.cell? (a.add 0) with
    | none => simp [h0] at h
    | some x =>
      simp [h0] at h
      exact ⟨x, h.symm, rfl⟩
  · cases h
theorem trod_bools {H : Type} {enc : TypeId × Value → H} {W : World} {base : Nat} {spare : Nat → Bool} {held : Bool} {v : Value} {fuel : Nat} {x : DataW H × List MemPlace} (h : DataW.trod enc Try.prog W base spare held fuel 41 [v] = some x) : ∃ l : List Bool, BoolsAt W v l := by
  rcases open_slice Try.underlying41 h with ⟨hcs, _⟩ | ⟨x, l, c, m, n, D, Pl, hcs, _, hl, hm, hme, _, hcell⟩
  · simp at hcs
    subst hcs
    exact ⟨[], ⟨none, 0, rfl, by simp, Nat.zero_le _, fun h => absurd h (by simp)⟩⟩
  · simp at hcs
    subst hcs
    have hlm : l ≤ m := by rw [hme]; split <;> omega
    have c4 : Try.prog.cellsOf 4 = 1 := by kernel_rfl
    have each : ∀ i, i < l → ∃ y : Bool, W.cell? (x.add i) = some (.bool y) := fun i hi => by
      obtain ⟨cs', hq1, hq2⟩ := hcell i (by omega)
      rw [c4, Nat.mul_one] at hq1
      obtain ⟨b, hb, _⟩ := DataW.trod_bool Try.underlying4 hq2
      subst hb
      obtain ⟨y, hy, q0⟩ := cells1 hq1
      simp at hy
      subst hy
      rw [add_add] at q0
      exact ⟨b, q0⟩
    obtain ⟨f, hF⟩ : ∃ f : Nat → Bool, ∀ i, i < l → W.cell? (x.add i) = some (.bool (f i)) := by
      refine ⟨fun i => if h : i < l then (each i h).choose else false, fun i hi => ?_⟩
      simp only [hi, dif_pos]
      exact (each i hi).choose_spec
    refine ⟨(List.range l).map f, ⟨some x, c, by simp, by simpa using hl, hm, fun hp => ?_⟩⟩
    have hp' : 0 < l := by simpa using hp
    have hx0 : x.spot = none := spot_of (m := 1) (spot_none (by simpa using hF 0 hp'))
    refine ⟨x.block, x.off, ?_, fun j hj => ?_⟩
    · cases x; simp at hx0; subst hx0; rfl
    · have g0 := hF j (by simpa using hj)
      rw [key_of hx0] at g0
      exact ⟨World.block_lt_of_cell? W ⟨x.block, x.off + j, none⟩ g0, by simpa using g0⟩
theorem open_bools {H : Type} {enc : TypeId × Value → H} {W : World} {base b0 : Nat} {r : Reach} {spare : Nat → Bool} {held : Bool} {v : Value} {d : DataW H} {p : List MemPlace} (hv : Value.okWide Try.prog W r b0 41 v) (h : DataW.Trod enc Try.prog W base spare held 41 v d p) : ∃ l : List Bool, BoolsAt W v l := by
  obtain ⟨s, n, c, rfl⟩ := okWide_slice Try.underlying41 hv
  obtain ⟨fuel, hf⟩ := h
  exact trod_bools (by simpa [Value.cells] using hf)
end Go.Proofs.Ythenkpeibkpmkab
