/-
  A clause of a rule: one of its ways.
-/
import Derived.Test.YtngbobnodecloaaDoorC1
import Derived.Test.YtngbobnodecloaaDoorC2
import Derived.Test.YtngbobnodecloaaDoorC3
import Derived.Test.YtngbobnodecloaaDoorC4
import Derived.Test.YtngbobnodecloaaDoorC5
import Derived.Test.YtngbobnodecloaaDoorC6
namespace Go.Proofs.YtngbobnodecloaaDoor
open Go.ChangeShapes Go.WideShapes Go.ChangeAt Go.RowKit Go.Maps
set_option linter.unusedVariables false
set_option linter.unusedSimpArgs false
set_option maxRecDepth 20000
theorem clause_any (w : World) (g : Nat) (V : Value) (L : List Tk) (s : St) (U : Nat) (col : Nat → Nat) (r : Rl) (wv tv mv kv ev : Value) (h : Env w g V L s) (hr : Rul w U col r wv tv mv kv ev) (hg : g < U) (h0 : s.o = 0) (hlen : r.w.length ≤ 700 ∧ r.t.length ≤ 700 ∧ r.m.length ≤ 700 ∧ r.k.length ≤ 700) : Calls Tryd.prog 70 #[rp g, .pointer (some ⟨U, 0, none⟩)] w (CLPost w g V L U (cla L r s).1 (cla L r s).2) := by
  unfold cla
  cases h1 : see L [119, 104, 101, 110] s
  · simp only [Bool.false_eq_true, if_false]
    cases h2 : see L [110, 111, 116] s
    · simp only [Bool.false_eq_true, if_false]
      cases h3 : see L [109, 97, 110, 121] s
      · simp only [Bool.false_eq_true, if_false]
        by_cases ht : r.e.ty.data.toList = []
        · cases h4 : see L [101, 109, 105, 116] s
          · rw [if_neg (by rintro ⟨_, c⟩; cases c)]
            cases h5 : see L [119, 104, 101, 114, 101] s
            · simp only [Bool.false_eq_true, if_false]
              exact clause_fail w g V L s U col r wv tv mv kv ev h hr hg h0 hlen h1 h2 h3 h4 h5 ht
            · simp only [if_true]
              exact clause_where w g V L s U col r wv tv mv kv ev h hr hg h0 hlen h1 h2 h3 h4 h5 ht
          · rw [if_pos ⟨ht, rfl⟩]
            exact clause_emit w g V L s U col r wv tv mv kv ev h hr hg h0 hlen h1 h2 h3 h4 ht
        · rw [if_neg (by rintro ⟨c, _⟩; exact ht c)]
          cases h5 : see L [119, 104, 101, 114, 101] s
          · simp only [Bool.false_eq_true, if_false]
            exact clause_fail2 w g V L s U col r wv tv mv kv ev h hr hg h0 hlen h1 h2 h3 h5 ht
          · simp only [if_true]
            exact clause_where2 w g V L s U col r wv tv mv kv ev h hr hg h0 hlen h1 h2 h3 h5 ht
      · simp only [if_true]
        exact clause_many w g V L s U col r wv tv mv kv ev h hr hg h0 hlen h1 h2 h3
    · simp only [if_true]
      exact clause_not w g V L s U col r wv tv mv kv ev h hr hg h0 hlen h1 h2
  · simp only [if_true]
    exact clause_when w g V L s U col r wv tv mv kv ev h hr hg h0 hlen h1
theorem cla_g (L : List Tk) (r : Rl) (s : St) (h0 : s.o = 0) : s.i ≤ (cla L r s).2.i ∧ (cla L r s).2.o = s.o ∧ (cla L r s).1.w.length + (cla L r s).1.t.length + (cla L r s).1.m.length + (cla L r s).1.k.length ≤ r.w.length + r.t.length + r.m.length + r.k.length + ((cla L r s).2.i - s.i) := by
  have e1 : s.adv.i = s.i + 1 := rfl
  have e2 : s.adv.o = s.o := rfl
  have a := whn_g L s.adv h0
  have b := pat_g L s.adv h0
  have c := mny_g L s.adv h0
  have d := emt_g L s.adv
  have e := lnk_g L s.adv
  have f := fal_i L s
  unfold cla
  split
  · simp only [List.length_append, List.length_singleton]; omega
  · split
    · simp only [List.length_append, List.length_singleton]; omega
    · split
      · simp only [List.length_append, List.length_singleton]; omega
      · split
        · simp only; omega
        · split
          · simp only [List.length_append, List.length_singleton]; omega
          · simp only; omega
end Go.Proofs.YtngbobnodecloaaDoor
