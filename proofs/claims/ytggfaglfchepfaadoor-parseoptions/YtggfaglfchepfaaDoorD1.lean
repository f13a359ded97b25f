/-
  Texts that are cut and parsed by reckoning: plain words.
-/
import Derived.Test.YtggfaglfchepfaaDoorPa
import Derived.Test.YtggfaglfchepfaaDoorU
namespace Go.Proofs.YtggfaglfchepfaaDoor
open Go.ChangeShapes Go.WideShapes Go.ChangeAt Go.RowKit Go.Maps
set_option linter.unusedVariables false
set_option linter.unusedSimpArgs false
set_option maxRecDepth 20000
/-- What is cut from a text, step by step. -/
def cutF : Nat → List UInt8 → Option (List Tk)
  | 0, _ => none
  | _ + 1, [] => some []
  | f + 1, c :: l => if (rd (c :: l)).e = 0 ∧ 0 < (rd (c :: l)).n ∧ (rd (c :: l)).n ≤ (c :: l).length then (match cutF f (skd ((c :: l).drop (rd (c :: l)).n)) with | some ts => some ((rd (c :: l)).t :: ts) | none => none) else none
theorem cutF_run (N : Nat) : ∀ (f : Nat) (l : List UInt8) (ts : List Tk), cutF f l = some ts → Run N l ts 0 0
  | 0, l, ts, h => by simp [cutF] at h
  | f + 1, [], ts, h => by
    simp [cutF] at h
    subst h
    exact .done
  | f + 1, c :: l, ts, h => by
    rw [cutF] at h
    split at h
    · rename_i hc
      split at h
      · rename_i ts' ht
        simp only [Option.some.injEq] at h
        subst h
        exact .step (c :: l) ts' 0 0 (by simp) hc.1 hc.2.1 hc.2.2 (cutF_run N f _ ts' ht)
      · cases h
    · cases h
/-- So many times a text. -/
def rpt : Nat → List UInt8 → List UInt8
  | 0, _ => []
  | n + 1, m => rpt n m ++ m
def deepT (k : Nat) (b : Bool) : List UInt8 :=
  [114, 117, 108, 101, 32, 114, 32, 123, 32, 119, 104, 101, 110, 32, 120, 32, 58, 32, 116, 32, 91, 32] ++ rpt k (if b then [110, 111, 116, 32] else [40, 32]) ++ [97, 32, 61, 32, 49, 32] ++ (if b then [] else rpt k [41, 32]) ++ [93, 32, 59, 32, 125]
def deepOk (k : Nat) (b : Bool) : Bool :=
  match cutF 200 (skd (deepT k b)) with
  | none => false
  | some ts => decide (ts.length < 700) && decide (12 < ts.length) && (if 8 ≤ k then decide ((prs ts).2.2 = 14) && decide ((prs ts).2.1 = 15) else decide ((prs ts).2.2 = 0) && decide ((prs ts).2.1 = 0))
theorem deep_all : ((List.range 16).all fun k => deepOk k true && deepOk k false) = true := by kernel_rfl
theorem deep_at (k : Nat) (hk : k < 16) (b : Bool) : ∃ ts, cutF 200 (skd (deepT k b)) = some ts ∧ ts.length < 700 ∧ 12 < ts.length ∧ (8 ≤ k → (prs ts).2.2 = 14 ∧ (prs ts).2.1 = 15) ∧ (¬ 8 ≤ k → (prs ts).2.2 = 0 ∧ (prs ts).2.1 = 0) := by
  have h := List.all_eq_true.1 deep_all k (by simpa using hk)
  have h2 : deepOk k b = true := by
    rw [Bool.and_eq_true] at h
    cases b
    · exact h.2
    · exact h.1
  unfold deepOk at h2
  split at h2
  · cases h2
  · rename_i ts ht
    refine ⟨ts, ht, ?_⟩
    simp only [Bool.and_eq_true, decide_eq_true_eq] at h2
    refine ⟨h2.1.1, h2.1.2, fun h8 => ?_, fun h8 => ?_⟩
    · have h3 := h2.2
      rw [if_pos h8] at h3
      simpa using h3
    · have h3 := h2.2
      rw [if_neg h8] at h3
      simpa using h3
theorem toks_low {w : World} {V : Value} {L : List Tk} (h : TokensAt w V L) (h0 : 0 < L.length) : ∀ b, V.ownBlock = some b → b < w.heap.size := by
  intro b hb
  obtain ⟨p, cap, rfl, _, _, hp⟩ := h
  obtain ⟨g, off, rfl, hc⟩ := hp h0
  simp [Value.ownBlock] at hb
  subst hb
  exact (hc 0 h0).1
end Go.Proofs.YtggfaglfchepfaaDoor
