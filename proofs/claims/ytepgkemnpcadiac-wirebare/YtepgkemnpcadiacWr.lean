/-
  A reader of bytes: signed, flag, text.
-/
import Derived.Test.YtepgkemnpcadiacWq
import Derived.Test.YtepgkemnpcadiacWm
namespace Go.Proofs.Ytepgkemnpcadiac
open Go.ChangeShapes Go.WideShapes Go.ChangeAt Go.RowKit Go.Maps
set_option linter.unusedVariables false
set_option linter.unusedSimpArgs false
set_option maxRecDepth 20000
theorem lnV_lt : ∀ (k i n : Nat) (s : Sx), k + i = 9 → n < 128 ^ i → lnV k i n s < 9223372036854775808
  | 0, i, n, s, _, _ => by show 0 < _; omega
  | k + 1, i, n, s, hk, hn => by
    have h1 := ln_step (c := smV s) (by omega : i < 9) hn
    have h2 := pow_le (i + 1) (by omega)
    show (if 128 ≤ smV s then _ else _) < _
    by_cases c : 128 ≤ smV s
    · rw [if_pos c]
      exact lnV_lt k (i + 1) _ _ (by omega) h1
    · rw [if_neg c]; omega
theorem lnV_63 (s : Sx) : lnV 9 0 0 s < 9223372036854775808 := lnV_lt 9 0 0 s rfl (by simp)
def sgZ (m : Nat) : Int := if m % 2 = 1 then -1 - ((m / 2 : Nat) : Int) else ((m / 2 : Nat) : Int)
def flS (s : Sx) : Sx := if 1 < smV s then rfx (smS s) 4 else smS s
def txV (s : Sx) : ByteArray := if (smS s).l.length < smV s then tx [] else tx ((smS s).l.take (smV s))
def txS (s : Sx) : Sx := if (smS s).l.length < smV s then rfx (smS s) 5 else ⟨(smS s).l.drop (smV s), (smS s).e⟩
end Go.Proofs.Ytepgkemnpcadiac
