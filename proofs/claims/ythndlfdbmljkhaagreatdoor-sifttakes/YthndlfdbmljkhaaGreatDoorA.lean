/-
  Tokens in plain words: what a token may be, how it is shown, how a text is cut. What Name and the document say of a name; letters and digits.
-/
import Derived.Test.YthndlfdbmljkhaaGreatDoorRows
import Derived.Handy
import Derived.WalkSmall
import Derived.Deep.QuietTactic
import Derived.BigQuiet
import Derived.Deep.RegionHeld3
import Derived.Deep.RegionLaw
import Derived.OwnWalk
import Derived.Lib.Bytealg
import Derived.Lib.Strings
import Derived.Lib.ItoaNum
namespace Go.Proofs.YthndlfdbmljkhaaGreatDoor
open Go.ChangeShapes Go.WideShapes Go.ChangeAt Go.RowKit
set_option linter.unusedVariables false
set_option linter.unusedSimpArgs false
/-- A token: kind, text, number. -/
structure Tk where
  k : Int
  s : ByteArray
  n : Int
def txt (l : List UInt8) : ByteArray := ⟨l.toArray⟩
theorem txt_list (l : List UInt8) : (txt l).data.toList = l := by simp [txt]
theorem txt_size (l : List UInt8) : (txt l).size = l.length := by simp [txt, ByteArray.size]
theorem txt_of (s : ByteArray) : txt s.data.toList = s := by cases s; simp [txt]
/-- The first error of n ones. -/
def fst (f : Nat → Int) : Nat → Int
  | 0 => 0
  | n + 1 => if fst f n ≠ 0 then fst f n else f n
theorem fst_hit {f : Nat → Int} {k n : Nat} (h0 : fst f k = 0) (h1 : f k ≠ 0) (hk : k < n) : fst f n = f k := by
  induction n with
  | zero => omega
  | succ n ih =>
    unfold fst
    by_cases e : k = n
    · subst e; simp [h0]
    · have := ih (by omega)
      rw [if_pos (by rw [this]; exact h1), this]
theorem fst_step {f : Nat → Int} {k : Nat} (h0 : fst f k = 0) (h1 : f k = 0) : fst f (k + 1) = 0 := by
  unfold fst; simp [h0, h1]
theorem fst_zero {f : Nat → Int} {n : Nat} (h : fst f n = 0) : ∀ k, k < n → f k = 0 := by
  induction n with
  | zero => intro k hk; omega
  | succ n ih =>
    unfold fst at h
    by_cases e : fst f n = 0
    · simp [e] at h
      intro k hk
      by_cases c : k = n
      · subst c; exact h
      · exact ih e k (by omega)
    · simp [e] at h
theorem fst_all {f : Nat → Int} {n : Nat} (h : ∀ k, k < n → f k = 0) : fst f n = 0 := by
  induction n with
  | zero => rfl
  | succ n ih => exact fst_step (ih fun k hk => h k (by omega)) (h n (by omega))
theorem fst_congr {f g : Nat → Int} {n : Nat} (h : ∀ k, k < n → f k = g k) : fst f n = fst g n := by
  induction n with
  | zero => rfl
  | succ n ih => unfold fst; rw [ih fun k hk => h k (by omega), h n (by omega)]
theorem size_nil {s : ByteArray} (h : s.toList = []) : s.size = 0 := by
  rw [Lib.toList_data] at h
  have := congrArg List.length h
  simpa using this
def byteN (s : ByteArray) (i : Nat) : Int := ((s.data.toList.getD i 0).toNat : Int)
def isL (c : Int) : Prop := 97 ≤ c ∧ c ≤ 122
def isD (c : Int) : Prop := 48 ≤ c ∧ c ≤ 57
instance (c : Int) : Decidable (isL c) := by unfold isL; infer_instance
instance (c : Int) : Decidable (isD c) := by unfold isD; infer_instance
/-- What is wrong with the sign at i of a name. -/
def sgn (s : ByteArray) (i : Nat) : Int := if isL (byteN s i) ∨ (i ≠ 0 ∧ isD (byteN s i)) then 0 else 4
def nchk (s : ByteArray) : Int := if s.size < 1 ∨ 10 < s.size then 1 else fst (sgn s) s.size
/-- The marks, longer ones first. -/
def mkl : List (List UInt8) := [[60, 61], [62, 61], [47, 61], [123], [125], [91], [93], [40], [41], [58], [59], [44], [46], [61], [60], [62], [45]]
/-- What a token is refused for. -/
def tchk (t : Tk) : Int :=
  if t.k = 1 then (if t.n ≠ 0 then 4 else nchk t.s)
  else if t.k = 2 then (if t.s.data.toList ≠ [] then 4 else if t.n < 0 ∨ 1125899906842624 < t.n then 2 else 0)
  else if t.k = 3 then (if t.n ≠ 0 ∨ 0 ≤ Lib.indexByte t.s.data.toList 34 then 4 else if 20 < t.s.size then 1 else 0)
  else if t.k = 4 then (if t.n ≠ 0 ∨ t.s.data.toList ∉ mkl then 4 else 0)
  else 3
/-- A token as it is written. -/
def shw (t : Tk) : List UInt8 :=
  if t.k = 2 then Lib.itoa t.n else if t.k = 3 then 34 :: (t.s.data.toList ++ [34]) else t.s.data.toList
/-- Tokens, a blank behind each one. -/
def cat : List Tk → List UInt8
  | [] => []
  | t :: l => shw t ++ 32 :: cat l
/-- How many bytes stand between tokens; within a note or not. -/
def skp : Bool → List UInt8 → Nat
  | _, [] => 0
  | true, c :: l => if c = 10 then skp false l + 1 else skp true l + 1
  | false, c :: l => if c = 32 ∨ c = 9 ∨ c = 10 ∨ c = 13 then skp false l + 1 else if c = 35 then skp true l + 1 else 0
/-- What is left behind them. -/
def skd (l : List UInt8) : List UInt8 := l.drop (skp false l)
def lw (c : UInt8) : Bool := decide (97 ≤ c.toNat ∧ c.toNat ≤ 122)
def dg (c : UInt8) : Bool := decide (48 ≤ c.toNat ∧ c.toNat ≤ 57)
def aln (c : UInt8) : Bool := lw c || dg c
/-- How many bytes a Word has. -/
def wl : List UInt8 → Nat
  | [] => 0
  | c :: l => if aln c = true then wl l + 1 else 0
/-- The digits that a text begins with, as a number (none: it is too great), and how many there are. -/
def numF : List UInt8 → Nat → Nat → Option (Nat × Nat)
  | [], m, n => some (m, n)
  | c :: l, m, n => if dg c = true then (if 1125899906842624 < 10 * m + (c.toNat - 48) then none else numF l (10 * m + (c.toNat - 48)) (n + 1)) else some (m, n)
def fmk (l : List UInt8) : List (List UInt8) → List UInt8
  | [] => []
  | m :: r => if Lib.hasPrefix l m = true then m else fmk l r
/-- The kind of the token that a text begins with. -/
def bgn : List UInt8 → Int
  | [] => 0
  | c :: l => if lw c = true then 1 else if dg c = true then 2 else if c = 34 then 3 else if fmk (c :: l) mkl ≠ [] then 4 else 0
structure Rd where
  e : Int
  t : Tk
  n : Nat
def no : Tk := ⟨0, txt [], 0⟩
def rdW (l : List UInt8) : Rd := if 10 < wl l then ⟨1, no, 0⟩ else ⟨0, ⟨1, txt (l.take (wl l)), 0⟩, wl l⟩
def rdN (l : List UInt8) : Rd :=
  match numF l 0 0 with
  | none => ⟨2, no, 0⟩
  | some (m, n) => if (l.head? = some 48 ∧ 1 < n) ∨ (l.drop n).head?.any lw = true then ⟨4, no, 0⟩ else ⟨0, ⟨2, txt [], m⟩, n⟩
def rdS (l : List UInt8) : Rd :=
  if Lib.indexByte (l.drop 1) 34 < 0 then ⟨5, no, 0⟩ else if 20 < Lib.indexByte (l.drop 1) 34 then ⟨1, no, 0⟩
  else ⟨0, ⟨3, txt ((l.drop 1).take (Lib.indexByte (l.drop 1) 34).toNat), 0⟩, (Lib.indexByte (l.drop 1) 34).toNat + 2⟩
def rdM (l : List UInt8) : Rd := ⟨0, ⟨4, txt (fmk l mkl), 0⟩, (fmk l mkl).length⟩
/-- The token that a text begins with, or what is wrong, and how many bytes it has. -/
def rd (l : List UInt8) : Rd := if bgn l = 0 then ⟨4, no, 0⟩ else if bgn l = 1 then rdW l else if bgn l = 2 then rdN l else if bgn l = 3 then rdS l else rdM l
/-- What is cut from a text (of N bytes, of which l is left): tokens; the place and the error that are told. -/
inductive Run (N : Nat) : List UInt8 → List Tk → Nat → Int → Prop
  | done : Run N [] [] 0 0
  | bad (l : List UInt8) : l ≠ [] → (rd l).e ≠ 0 → Run N l [] (N - l.length) (rd l).e
  | step (l : List UInt8) (ts : List Tk) (p : Nat) (e : Int) : l ≠ [] → (rd l).e = 0 → 0 < (rd l).n → (rd l).n ≤ l.length → Run N (skd (l.drop (rd l).n)) ts p e → Run N l ((rd l).t :: ts) p e
abbrev tV (t : Tk) : Value := .agg #[.int .i64 t.k, .string t.s, .int .i64 t.n]
def TokensAt (w : World) (v : Value) (l : List Tk) : Prop :=
  ∃ p cap, v = .slice p l.length cap ∧ l.length ≤ cap ∧ cap ≤ maxLen ∧ (0 < l.length → ∃ g off, p = some ⟨g, off, none⟩ ∧ ∀ j (hj : j < l.length), g < w.heap.size ∧ w.cell? ⟨g, off + j * 3, none⟩ = some (.int .i64 l[j].k) ∧ w.cell? ⟨g, off + j * 3 + 1, none⟩ = some (.string l[j].s) ∧ w.cell? ⟨g, off + j * 3 + 2, none⟩ = some (.int .i64 l[j].n))
theorem TokensAt.below {w w' : World} {v : Value} {fs : List Tk} (h : TokensAt w v fs) (b : Below w.heap.size w w') : TokensAt w' v fs := by
  obtain ⟨p, cap, h1, hc, hm, h2⟩ := h
  refine ⟨p, cap, h1, hc, hm, fun h0 => ?_⟩
  obtain ⟨g, off, h3, h4⟩ := h2 h0
  refine ⟨g, off, h3, fun j hj => ?_⟩
  obtain ⟨a, b0, b1, b2⟩ := h4 j hj
  exact ⟨Nat.lt_of_lt_of_le a b.size, (b.cell (p := ⟨g, off + j * 3, none⟩) a).trans b0, (b.cell (p := ⟨g, off + j * 3 + 1, none⟩) a).trans b1, (b.cell (p := ⟨g, off + j * 3 + 2, none⟩) a).trans b2⟩
theorem below_new (a : World) (o : Obj) : Below a.heap.size a (a.alloc o) := (Below.refl _ _).alloc (Nat.le_refl _) o
theorem below_trans {B B' : Nat} {w w1 w2 : World} (h : Below B w w1) (h2 : Below B' w1 w2) (hb : B ≤ B') : Below B w w2 :=
  ⟨h2.os.trans h.os, h2.tape.trans h.tape, h2.output.trans h.output, Nat.le_trans h.size h2.size, fun k hk => (h2.block k (by omega)).trans (h.block k hk)⟩
end Go.Proofs.YthndlfdbmljkhaaGreatDoor
namespace Go.Proofs.YthndlfdbmljkhaaGreatDoor
open Go.ChangeShapes Go.WideShapes Go.ChangeAt Go.RowKit
set_option linter.unusedVariables false
set_option linter.unusedSimpArgs false
theorem byteN_at (s : ByteArray) (k : Nat) (h : k < s.size) : byteN s k = (s[k].toNat : Int) := by
  unfold byteN
  have h' : k < s.data.toList.length := by simpa using h
  rw [List.getD_eq_getElem?_getD, List.getElem?_eq_getElem h']
  rfl
theorem sgn_at (s : ByteArray) (k : Nat) (h : k < s.size) : sgn s k = if (97 ≤ (s[k].toNat : Int) ∧ (s[k].toNat : Int) ≤ 122) ∨ (k ≠ 0 ∧ 48 ≤ (s[k].toNat : Int) ∧ (s[k].toNat : Int) ≤ 57) then 0 else 4 := by
  unfold sgn isL isD
  rw [byteN_at s k h]
theorem nchk_mid {s : ByteArray} (h1 : 1 ≤ s.size) (h2 : s.size ≤ 10) : nchk s = fst (sgn s) s.size := by
  unfold nchk; rw [if_neg (by omega)]
theorem wrap_byte (c : UInt8) : wrap64 (c.toNat : Int) = (c.toNat : Int) := by
  have := c.toNat_lt
  unfold wrap64
  omega
/-- A Bool that tells whether P holds. -/
def Say (b : Bool) (P : Prop) : Prop := b = true ↔ P
theorem bool_of (P : Prop) [Decidable P] : ∃ b : Bool, Say b P := ⟨decide P, by simp [Say]⟩
theorem Say.yes {P : Prop} (h : P) : Say true P := by simp [Say, h]
theorem Say.no {P : Prop} (h : ¬ P) : Say false P := by simp [Say, h]
theorem Say.t {P : Prop} (h : Say true P) : P := by simpa [Say] using h
theorem Say.f {P : Prop} (h : Say false P) : ¬ P := by simpa [Say] using h
theorem ret_int {k : IntKind} {a b : Int} (h : a = b) : Ending.returned (.int k a) = .returned (.int k b) := by rw [h]
theorem ret_bool {a b : Bool} (h : a = b) : Ending.returned (.bool a) = .returned (.bool b) := by rw [h]
theorem isDigit_any (c : Int) (r : Bool) (h : Say r ((48 : Int) ≤ c ∧ c ≤ 57)) (w : World) :
    Calls Tryz.prog 133 #[.int .u8 c] w fun e w' => e = .returned (.bool r) ∧ w' = w := by
  have H : Hid (Say r ((48 : Int) ≤ c ∧ c ≤ 57)) := h
  clear h
  go_enter Tryz.func133, Tryz.ntmps133
  go_wp2
  all_goals
    go_ret
    exact ⟨ret_bool (by have h := H.out; unfold Say at h; rw [Bool.eq_iff_iff, h]; simp <;> omega), rfl⟩
theorem isLetter_any (c : Int) (r : Bool) (h : Say r ((97 : Int) ≤ c ∧ c ≤ 122)) (w : World) :
    Calls Tryz.prog 134 #[.int .u8 c] w fun e w' => e = .returned (.bool r) ∧ w' = w := by
  have H : Hid (Say r ((97 : Int) ≤ c ∧ c ≤ 122)) := h
  clear h
  go_enter Tryz.func134, Tryz.ntmps134
  go_wp2
  all_goals
    go_ret
    exact ⟨ret_bool (by have h := H.out; unfold Say at h; rw [Bool.eq_iff_iff, h]; simp <;> omega), rfl⟩
theorem in_any (a b c : Int) (r : Bool) (h : Say r (b ≤ a ∧ a ≤ c)) (w : World) :
    Calls Tryz.prog 17 #[.int .i64 a, .int .i64 b, .int .i64 c] w fun e w' => e = .returned (.bool r) ∧ w' = w := by
  have H : Hid (Say r (b ≤ a ∧ a ≤ c)) := h
  clear h
  go_enter Tryz.func17, Tryz.ntmps17
  go_wp2
  all_goals
    go_ret
    exact ⟨ret_bool (by have h := H.out; unfold Say at h; rw [Bool.eq_iff_iff, h]; simp <;> omega), rfl⟩
set_option maxHeartbeats 2000000 in
theorem name_any (s : ByteArray) (w : World) :
    Calls Tryz.prog 97 #[.string s] w fun e w' => e = .returned (.int .i64 (nchk s)) ∧ w' = w := by
  by_cases hsz : 1 ≤ s.size ∧ s.size ≤ 10
  · obtain ⟨h1, h2⟩ := hsz
    have hp : 0 < s.size := by omega
    have HE : Hid (nchk s = fst (sgn s) s.size) := nchk_mid h1 h2
    have HS : Hid (∀ k (h : k < s.size), sgn s k = if (97 ≤ (s[k].toNat : Int) ∧ (s[k].toNat : Int) ≤ 122) ∨ (k ≠ 0 ∧ 48 ≤ (s[k].toNat : Int) ∧ (s[k].toNat : Int) ≤ 57) then 0 else 4) := sgn_at s
    by_cases hd : (48 : Int) ≤ (s[0].toNat : Int) ∧ (s[0].toNat : Int) ≤ 57
    · have hx : fst (sgn s) s.size = 4 := by
        have e := sgn_at s 0 hp
        rw [if_neg (by omega)] at e
        rw [fst_hit (k := 0) rfl (by rw [e]; omega) hp, e]
      have HX : Hid (fst (sgn s) s.size = 4) := hx
      have HD : Hid ((48 : Int) ≤ (s[0].toNat : Int) ∧ (s[0].toNat : Int) ≤ 57) := hd
      clear hx hd
      go_enter Tryz.func97, Tryz.ntmps97
      go_wp2_with (go_at_call 133; refine (isDigit_any _ true (Say.yes HD.out) _).mono ?_; rintro e w' ⟨rfl, rfl⟩)
      go_ret
      exact ⟨ret_int (by rw [HE.out, HX.out]), rfl⟩
    · have HD : Hid (¬ ((48 : Int) ≤ (s[0].toNat : Int) ∧ (s[0].toNat : Int) ≤ 57)) := hd
      clear hd
      go_enter Tryz.func97, Tryz.ntmps97
      go_wp2_with (go_at_call 133; refine (isDigit_any _ false (Say.no HD.out) _).mono ?_; rintro e w' ⟨rfl, rfl⟩)
      go_loop [17] (fun i => ∃ k : Nat, k ≤ s.size ∧ i = .int .i64 k ∧ fst (sgn s) k = 0) (fun i => s.size - (intOf i).toNat)
      case atStart => exact ⟨0, Nat.zero_le _, rfl, rfl⟩
      case round =>
        obtain ⟨k, hk, rfl, hf⟩ := hrel
        have HF : Hid (fst (sgn s) k = 0) := hf
        clear hf
        by_cases hlt : k < s.size
        · have HK : Hid (sgn s k = if (97 ≤ (s[k].toNat : Int) ∧ (s[k].toNat : Int) ≤ 122) ∨ (k ≠ 0 ∧ 48 ≤ (s[k].toNat : Int) ∧ (s[k].toNat : Int) ≤ 57) then 0 else 4) := HS.out k hlt
          have HD' : Hid (k = 0 → ¬ (48 ≤ (s[k].toNat : Int) ∧ (s[k].toNat : Int) ≤ 57)) := fun h => by subst h; exact HD.out
          obtain ⟨bl, hbl⟩ := bool_of ((97 : Int) ≤ (s[k].toNat : Int) ∧ (s[k].toNat : Int) ≤ 122)
          obtain ⟨bd, hbd⟩ := bool_of ((48 : Int) ≤ (s[k].toNat : Int) ∧ (s[k].toNat : Int) ≤ 57)
          have HL : Hid (Say bl ((97 : Int) ≤ (s[k].toNat : Int) ∧ (s[k].toNat : Int) ≤ 122)) := hbl
          have HDG : Hid (Say bd ((48 : Int) ≤ (s[k].toNat : Int) ∧ (s[k].toNat : Int) ≤ 57)) := hbd
          clear hbl hbd
          cases bl <;> cases bd
          all_goals go_wp2_with (first | (go_at_call 133; refine (isDigit_any _ _ HDG.out _).mono ?_; rintro e w' ⟨rfl, rfl⟩) | (go_at_call 134; refine (isLetter_any _ _ HL.out _).mono ?_; rintro e w' ⟨rfl, rfl⟩))
          all_goals
            have hl := HL.out
            have hdg := HDG.out
            simp [Say] at hl hdg
            have e := HK.out
            have e2 := HD'.out
          · rw [if_neg (by omega)] at e
            go_ret
            exact ⟨ret_int (by rw [HE.out, fst_hit HF.out (by rw [e]; omega) hlt, e]), rfl⟩
          all_goals
            rw [if_pos (by omega)] at e
            have HEE : Hid (sgn s k = 0) := e
            clear e e2 hl hdg
            go_round
            case rel => exact ⟨k + 1, by omega, by go_num, fst_step HF.out HEE.out⟩
            case measure => simp [intOf]; omega
        · obtain rfl : k = s.size := by omega
          go_wp2
          go_ret
          exact ⟨ret_int (by rw [HE.out, HF.out]), rfl⟩
  · have he : nchk s = 1 := by unfold nchk; rw [if_pos (by omega)]
    have HE : Hid (nchk s = 1) := he
    clear he
    go_enter Tryz.func97, Tryz.ntmps97
    go_wp2
    all_goals first
      | (go_ret
         exact ⟨ret_int (by rw [HE.out]), rfl⟩)
      | (exfalso; omega)
set_option maxHeartbeats 2000000 in
theorem nfault_any (s : ByteArray) (w : World) :
    Calls Tryz.prog 70 #[.string s] w fun e w' => e = .returned (.int .i64 (nchk s)) ∧ w' = w := by
  by_cases hsz : 1 ≤ s.size ∧ s.size ≤ 10
  · obtain ⟨h1, h2⟩ := hsz
    have HE : Hid (nchk s = fst (sgn s) s.size) := nchk_mid h1 h2
    have HS : Hid (∀ k (h : k < s.size), sgn s k = if (97 ≤ (s[k].toNat : Int) ∧ (s[k].toNat : Int) ≤ 122) ∨ (k ≠ 0 ∧ 48 ≤ (s[k].toNat : Int) ∧ (s[k].toNat : Int) ≤ 57) then 0 else 4) := sgn_at s
    go_enter Tryz.func70, Tryz.ntmps70
    go_wp2_with (go_at_call 17; refine (in_any _ _ _ true (Say.yes (by omega)) _).mono ?_; rintro e w' ⟨rfl, rfl⟩)
    go_loop [3] (fun i => ∃ k : Nat, k ≤ s.size ∧ i = .int .i64 k ∧ fst (sgn s) k = 0) (fun i => s.size - (intOf i).toNat)
    case atStart => exact ⟨0, Nat.zero_le _, rfl, rfl⟩
    case round =>
      obtain ⟨k, hk, rfl, hf⟩ := hrel
      have HF : Hid (fst (sgn s) k = 0) := hf
      clear hf
      by_cases hlt : k < s.size
      · have HK : Hid (sgn s k = if (97 ≤ (s[k].toNat : Int) ∧ (s[k].toNat : Int) ≤ 122) ∨ (k ≠ 0 ∧ 48 ≤ (s[k].toNat : Int) ∧ (s[k].toNat : Int) ≤ 57) then 0 else 4) := HS.out k hlt
        obtain ⟨bl, hbl⟩ := bool_of ((97 : Int) ≤ (s[k].toNat : Int) ∧ (s[k].toNat : Int) ≤ 122)
        obtain ⟨bd, hbd⟩ := bool_of ((48 : Int) ≤ (s[k].toNat : Int) ∧ (s[k].toNat : Int) ≤ 57)
        have HL : Hid (Say bl ((97 : Int) ≤ (s[k].toNat : Int) ∧ (s[k].toNat : Int) ≤ 122)) := hbl
        have HDG : Hid (Say bd ((48 : Int) ≤ (s[k].toNat : Int) ∧ (s[k].toNat : Int) ≤ 57)) := hbd
        clear hbl hbd
        have hw64 : wrap64 (s[k].toNat : Int) = (s[k].toNat : Int) := wrap_byte s[k]
        by_cases hk0 : k = 0
        · subst hk0
          cases bl
          all_goals go_wp2_with (go_at_call 17; refine (in_any _ _ _ _ HL.out _).mono ?_; rintro e w' ⟨rfl, rfl⟩)
          all_goals
            have hl := HL.out
            simp [Say] at hl
            have e := HK.out
          · rw [if_neg (by omega)] at e
            go_ret
            exact ⟨ret_int (by rw [HE.out, fst_hit HF.out (by rw [e]; omega) hlt, e]), rfl⟩
          · rw [if_pos (by omega)] at e
            have HEE : Hid (sgn s 0 = 0) := e
            clear e hl
            go_round
            case rel => exact ⟨0 + 1, by omega, by go_num, fst_step HF.out HEE.out⟩
            case measure => simp [intOf]; omega
        · have hkd : decide ((k : Int) = 0) = false := by simp; omega
          have hkb : ((k : Int) == 0) = false := by simp; omega
          cases bl <;> cases bd
          all_goals go_wp2_with (first | (go_at_call_of 17 (Value.int IntKind.i64 97); refine (in_any _ 97 122 _ HL.out _).mono ?_; rintro e w' ⟨rfl, rfl⟩) | (go_at_call_of 17 (Value.int IntKind.i64 48); refine (in_any _ 48 57 _ HDG.out _).mono ?_; rintro e w' ⟨rfl, rfl⟩))
          all_goals
            have hl := HL.out
            have hdg := HDG.out
            simp [Say] at hl hdg
            have e := HK.out
          · rw [if_neg (by omega)] at e
            go_ret
            exact ⟨ret_int (by rw [HE.out, fst_hit HF.out (by rw [e]; omega) hlt, e]), rfl⟩
          all_goals
            rw [if_pos (by omega)] at e
            have HEE : Hid (sgn s k = 0) := e
            clear e hl hdg
            go_round
            case rel => exact ⟨k + 1, by omega, by go_num, fst_step HF.out HEE.out⟩
            case measure => simp [intOf]; omega
      · obtain rfl : k = s.size := by omega
        go_wp2
        go_ret
        exact ⟨ret_int (by rw [HE.out, HF.out]), rfl⟩
  · have he : nchk s = 1 := by unfold nchk; rw [if_pos (by omega)]
    have HE : Hid (nchk s = 1) := he
    clear he
    go_enter Tryz.func70, Tryz.ntmps70
    go_wp2_with (go_at_call 17; refine (in_any _ _ _ false (Say.no (by omega)) _).mono ?_; rintro e w' ⟨rfl, rfl⟩)
    go_ret
    exact ⟨ret_int (by rw [HE.out]), rfl⟩
end Go.Proofs.YthndlfdbmljkhaaGreatDoor
