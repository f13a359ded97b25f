/-
  Behind a crash one goes on: TapeOn.
-/
import Derived.Test.YtepgkemnpcadiaaTr
namespace Go.Proofs.Ytepgkemnpcadiaa
open Go.ChangeShapes Go.WideShapes Go.ChangeAt Go.RowKit Go.Maps
set_option linter.unusedVariables false
set_option linter.unusedSimpArgs false
set_option maxRecDepth 20000
theorem tcr_zero {l : List UInt8} {k : Int} (h : l.length ≤ 100000) (hk : 0 ≤ k) : ∃ E : Nat, E ≤ l.length ∧ tcr l 0 k = (l.take E, (E : Int), 0) := by
  refine ⟨tcrN l 0 k, ?_, ?_⟩
  · unfold tcrN; split <;> omega
  · rw [tcr_fits h (by omega), if_neg (by omega)]
theorem trc_full {La : List Ac} (h : ∀ a ∈ La, ach a = 0) (E : Nat) (hl : E ≤ 200000) (hE : E ≤ (tpd La).length) :
    ∃ j, j ≤ La.length ∧ trc ((tpd La).take E) E = (La.take j, tpd (La.take j), ((tpd (La.take j)).length : Int), 0) ∧ (tpd (La.take j)).length ≤ E := by
  obtain ⟨j, h1, h2, h3, _⟩ := trc_cut h E E hl hE (by omega)
  refine ⟨j, h1, ?_, h3⟩
  rw [h2]
  congr 3
  split <;> omega
theorem tap_at {l : List UInt8} {s : Int} {a : Ac} (h : ach a = 0) (hl : l.length ≤ 100000) (hs : 0 ≤ s ∧ s ≤ l.length) : tap l s a = (l ++ hdb (abt a).length ++ abt a, s, 0) := by
  have := abt_len h
  unfold tap
  rw [if_pos (by unfold tmay; simp; omega), if_neg (by simp [h]), if_neg (by omega)]
theorem ent_begins : ∀ args w, (callFunc 25 args).run Try.prog w = .ok (.enter 25 args) w := enters_of Try.func25 (by kernel_rfl) rfl
theorem ent_crsh : ∀ args w, (callFunc 17 args).run Try.prog w = .ok (.enter 17 args) w := enters_of Try.func17 (by kernel_rfl) rfl
theorem want_yes {o : Oper} {y : _} {X E : Prop} (hg : Region.wanted o y = true) (h : X) : if Region.wanted o y = true then X else E := by
  rw [if_pos hg]
  exact h
end Go.Proofs.Ytepgkemnpcadiaa
