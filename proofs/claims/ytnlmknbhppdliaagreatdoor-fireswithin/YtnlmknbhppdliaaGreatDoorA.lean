/-
  Tokens in plain words: what a token may be, how it is shown, how a text is cut. Data that a call has laid in blocks of its own: slices of structs that hold slices. The grammar in plain words: what a reader of tokens makes of them, function by function. What Name and the document say of a name; letters and digits. Words that are kept, and the numbers of the relations' words. Whether a text is a mark; the longest mark that it begins with. What Check and the document say of a token. What the document says of a token. Bytes between tokens; the kinds of tokens; Words, Numbers, Strings and Marks as they are read. A reader of tokens in memory; what its smallest functions do. The smallest functions of a reader of tokens. The next token of a reader; whether it is a word or a mark. A reader goes past a word or a mark, a name, a number. A reader opens and closes what a condition is nested by; it reads a name, a number, a relation. A side of a comparison. A comparison. A reader does not go back, and closes what it opens; rows of data that a reader appends to. Tokens and raw tokens that came in, and the tables that the program's text lays: what lies in memory. Rows of tokens that the call owns; a copy of tokens that came in. What types of the program hold; a condition's cells. Parts of a condition with a word between them. Conditions, nested as deep as they may be. A pattern. Data that lie anywhere in memory and are only read; elements of rows, one by one. Words that are kept, as the reference has them. Names are found by their places; single faults, by the reference. Steps of regions that draw their order: a call, an append; a slice of one struct. Values and sides, by the reference. Sides and conditions, by the reference. Options, and fields that are summed up, by the reference.
-/
import Derived.Test.YtnlmknbhppdliaaGreatDoorRows
import Derived.Handy
import Derived.WalkSmall
import Derived.Deep.QuietTactic
import Derived.BigQuiet
import Derived.Deep.RegionHeld3
import Derived.Deep.RegionLaw
import Derived.OwnWalk
import Derived.Lib.Bytealg
import Derived.Lib.Strings
import Derived.Lib.ItoaNum
import Derived.Maps.AppendAt
import Derived.Laws.OwnMore
import Derived.Below
import Derived.Maps.OwnSet
import Derived.Deep.MidRow
import Derived.Defers
import Derived.Deep.Slices
import Derived.Deep.Strs
import Derived.Lib.SmallJoins
import Derived.MakeChecks
import Derived.FnData
import Derived.Deep.AppendLies
import Derived.SizedLaws
import Derived.Deep.LoopGhost
import Derived.RegionTactic
import Derived.Shelf.Abstract
set_option maxHeartbeats 64000000
namespace Go.Proofs.YtnlmknbhppdliaaGreatDoor
open Go.ChangeShapes Go.WideShapes Go.ChangeAt Go.RowKit
set_option linter.unusedVariables false
set_option linter.unusedSimpArgs false
def txt (l : List UInt8) : ByteArray := ⟨l.toArray⟩
theorem zFN (l : List UInt8) : (txt l).data.toList = l := by simp [txt]
theorem txt_of (s : ByteArray) : txt s.data.toList = s := by cases s; simp [txt]
def fst (f : Nat → Int) : Nat → Int
  | 0 => 0
  | n + 1 => if fst f n ≠ 0 then fst f n else f n
theorem fst_hit {f : Nat → Int} {k n : Nat} (h0 : fst f k = 0) (h1 : f k ≠ 0) (hk : k < n) : fst f n = f k := by
 induction n with
 | zero => omega
 | succ n ih =>
  unfold fst
  by_cases e : k = n
  . subst e; simp [h0]
  . have := ih (by omega)
    rw [if_pos (by rw [this]; exact h1), this]
theorem fst_step {f : Nat → Int} {k : Nat} (h0 : fst f k = 0) (h1 : f k = 0) : fst f (k + 1) = 0 := by
  unfold fst; simp [h0, h1]
def zC9 (s : ByteArray) (i : Nat) : Int := ((s.data.toList.getD i 0).toNat : Int)
def isL (c : Int) : Prop := 97 ≤ c ∧ c ≤ 122
def isD (c : Int) : Prop := 48 ≤ c ∧ c ≤ 57
instance (c : Int) : Decidable (isL c) := by unfold isL; infer_instance
instance (c : Int) : Decidable (isD c) := by unfold isD; infer_instance
def sgn (s : ByteArray) (i : Nat) : Int := if isL (zC9 s i) ∨ (i ≠ 0 ∧ isD (zC9 s i)) then 0 else 4
def nchk (s : ByteArray) : Int := if s.size < 1 ∨ 10 < s.size then 1 else fst (sgn s) s.size
theorem zAA {B B' : Nat} {w w1 w2 : World} (h : Below B w w1) (h2 : Below B' w1 w2) (hb : B ≤ B') : Below B w w2 :=
  ⟨h2.os.trans h.os, h2.tape.trans h.tape, h2.output.trans h.output, Nat.le_trans h.size h2.size, fun k hk => (h2.block k (by omega)).trans (h.block k hk)⟩
end Go.Proofs.YtnlmknbhppdliaaGreatDoor
namespace Go.Proofs.YtnlmknbhppdliaaGreatDoor
open Go.RowKit Go.Maps
set_option linter.unusedVariables false
set_option linter.unusedSimpArgs false
inductive Dat where
  | lit (v : Value)
  | row (e z : Nat) (l : List (List Dat))
def nilV : Value := .slice none 0 0
theorem zA0 {w : World} {base : Nat} {e : TypeId} {size : Nat} {v : Value} {n : Nat} {xs : List Value} (h : w.ownsRow base e size v n xs) {i : Nat} (hi : v.ownBlock = some i) : base ≤ i ∧ i < w.heap.size := by
 rcases h.2 with ⟨rfl, _⟩ | ⟨g, cap, cur, rfl, h1, h2, _⟩
 . simp [Value.ownBlock] at hi
 . simp [Value.ownBlock] at hi
   subst hi
   exact ⟨h1, (Array.getElem?_eq_some_iff.1 h2).1⟩
theorem zHO {w w' : World} {base : Nat} {e : TypeId} {size : Nat} {v : Value} {n : Nat} {xs : List Value} (h : w.ownsRow base e size v n xs) (hb : ∀ i, v.ownBlock = some i → w'.heap[i]? = w.heap[i]?) : w'.ownsRow base e size v n xs := by
  refine ⟨h.1, ?_⟩
  rcases h.2 with h2 | ⟨g, cap, cur, rfl, h1, h2, h3⟩
  . exact Or.inl h2
  . exact Or.inr ⟨g, cap, cur, rfl, h1, (hb g rfl).trans h2, h3⟩
structure Fr (X : Nat → Prop) (w w' : World) : Prop where
  os : w'.os = w.os
  tape : w'.tape = w.tape
  output : w'.output = w.output
  size : w.heap.size ≤ w'.heap.size
  block : ∀ k, k < w.heap.size → ¬ X k → w'.heap[k]? = w.heap[k]?
theorem Fr.refl (X : Nat → Prop) (w : World) : Fr X w w := ⟨rfl, rfl, rfl, Nat.le_refl _, fun _ _ _ => rfl⟩
theorem Fr.trans {X : Nat → Prop} {a b c : World} (h : Fr X a b) (k : Fr X b c) : Fr X a c :=
  ⟨k.os.trans h.os, k.tape.trans h.tape, k.output.trans h.output, Nat.le_trans h.size k.size, fun i hi hx => (k.block i (Nat.lt_of_lt_of_le hi h.size) hx).trans (h.block i hi hx)⟩
theorem Fr.then {X Y : Nat → Prop} {a b c : World} (h : Fr X a b) (k : Fr Y b c) (hy : ∀ i, Y i → X i ∨ a.heap.size ≤ i) : Fr X a c :=
  ⟨k.os.trans h.os, k.tape.trans h.tape, k.output.trans h.output, Nat.le_trans h.size k.size, fun i hi hx => (k.block i (Nat.lt_of_lt_of_le hi h.size) fun q => by rcases hy i q with c | c <;> first | exact hx c | omega).trans (h.block i hi hx)⟩
theorem Fr.setCell {X : Nat → Prop} {a w : World} (h : Fr X a w) {p : Addr} (hp : X p.block ∨ a.heap.size ≤ p.block) (u : Value) : Fr X a (w.setCell p u) :=
  ⟨h.os, h.tape, h.output, by simpa [World.setCell] using h.size, fun k hk hx => (Below.heap_setCell _ _ _ _ (by rintro rfl; rcases hp with c | c <;> first | exact hx c | omega)).trans (h.block k hk hx)⟩
theorem Fr.grown {X : Nat → Prop} {a w w' : World} {row : Option Nat} (h : Fr X a w) (hg : w.grownBy w' row) (hr : ∀ k, row = some k → X k ∨ a.heap.size ≤ k) : Fr X a w' :=
  ⟨hg.os.trans h.os, hg.tape.trans h.tape, hg.output.trans h.output, Nat.le_trans h.size hg.size, fun i hi hx => (hg.block i (Nat.lt_of_lt_of_le hi h.size) fun q => by rcases hr i q.symm with c | c <;> first | exact hx c | omega).trans (h.block i hi hx)⟩
theorem Fr.of_below {X : Nat → Prop} {w w' : World} (h : Below w.heap.size w w') : Fr X w w' := ⟨h.os, h.tape, h.output, h.size, fun k hk _ => h.block k hk⟩
end Go.Proofs.YtnlmknbhppdliaaGreatDoor
namespace Go.Proofs.YtnlmknbhppdliaaGreatDoor
open Go.ChangeShapes Go.WideShapes Go.ChangeAt Go.RowKit
set_option linter.unusedVariables false
set_option linter.unusedSimpArgs false
def kpl : List (List UInt8) := [[97, 110, 100], [97, 110, 121], [101, 109, 105, 116], [105, 110, 116], [108, 97, 115, 116], [109, 97, 110, 121], [110, 111, 116], [111, 102], [111, 114], [111, 118, 101, 114], [114, 117, 108, 101], [116, 101, 120, 116], [116, 105, 109, 101], [116, 121, 112, 101], [119, 104, 101, 110], [119, 104, 101, 114, 101], [119, 105, 116, 104, 105, 110]]
def rll : List (List UInt8) := [[98, 101, 102, 111, 114, 101], [97, 102, 116, 101, 114], [109, 101, 101, 116, 115], [109, 101, 116, 98, 121], [111, 118, 101, 114, 108, 97, 112, 115], [111, 118, 101, 114, 108, 97, 112, 112, 101, 100], [115, 116, 97, 114, 116, 115], [115, 116, 97, 114, 116, 101, 100, 98, 121], [100, 117, 114, 105, 110, 103], [99, 111, 110, 116, 97, 105, 110, 115], [102, 105, 110, 105, 115, 104, 101, 115], [102, 105, 110, 105, 115, 104, 101, 100, 98, 121], [101, 113, 117, 97, 108, 115]]
def plc (s : List UInt8) : List (List UInt8) → Nat → Nat
  | [], _ => 0
  | x :: r, n => if s = x then n + 1 else plc s r (n + 1)
def rln (s : ByteArray) : Nat := plc s.data.toList rll 0
def kpt (s : ByteArray) : Bool := decide (s.data.toList ∈ kpl) || decide (s.data.toList ∈ rll)
structure Opd where
  k : Int
  vk : Int
  vi : Int
  vt : ByteArray
  va : ByteArray
  fd : ByteArray
def opd0 : Opd := ⟨0, 0, 0, txt [], txt [], txt []⟩
def encO (o : Opd) : List Dat := [.lit (.int .i64 o.k), .lit (.int .i64 o.vk), .lit (.int .i64 o.vi), .lit (.string o.vt), .lit (.string o.va), .lit (.string o.fd)]
structure Cn where
  k : Int
  sb : List (List Dat)
  l : Opd
  r : Opd
def cn0 : Cn := ⟨0, [], opd0, opd0⟩
def encC (c : Cn) : List Dat := .lit (.int .i64 c.k) :: .row 46 14 c.sb :: (encO c.l ++ encO c.r)
structure Pt where
  va : ByteArray
  ty : ByteArray
  c : Cn
  w : Int
  n : Int
def encP (p : Pt) : List Dat := .lit (.string p.va) :: .lit (.string p.ty) :: (encC p.c ++ [.lit (.int .i64 p.w), .lit (.int .i64 p.n)])
structure Op3 where
  r : Int
  lo : Int
  hi : Int
def encQ (o : Op3) : List Dat := [.lit (.int .i64 o.r), .lit (.int .i64 o.lo), .lit (.int .i64 o.hi)]
structure Lk where
  l : ByteArray
  o : List Op3
  r : ByteArray
def encK (k : Lk) : List Dat := [.lit (.string k.l), .row 63 3 (k.o.map encQ), .lit (.string k.r)]
structure Em where
  ty : ByteArray
  v : List Opd
structure Mn where
  c : Int
  f : ByteArray
  p : Pt
def encM (m : Mn) : List Dat := .lit (.int .i64 m.c) :: .lit (.string m.f) :: encP m.p
structure Rl where
  n : ByteArray
  w : List Pt
  t : List Pt
  m : List Mn
  k : List Lk
  e : Em
def encR (r : Rl) : List Dat := [.lit (.string r.n), .row 48 18 (r.w.map encP), .row 48 18 (r.t.map encP), .row 78 20 (r.m.map encM), .row 66 3 (r.k.map encK), .lit (.string r.e.ty), .row 44 6 (r.e.v.map encO)]
structure Fd where
  n : ByteArray
  k : Int
def encF (f : Fd) : List Dat := [.lit (.string f.n), .lit (.int .i64 f.k)]
structure Tp where
  n : ByteArray
  f : List Fd
def encY (t : Tp) : List Dat := [.lit (.string t.n), .row 103 2 (t.f.map encF)]
theorem zDH (s : ByteArray) (k : Nat) (h : k < s.size) : zC9 s k = (s[k].toNat : Int) := by
  unfold zC9
  have h' : k < s.data.toList.length := by simpa using h
  rw [List.getD_eq_getElem?_getD, List.getElem?_eq_getElem h']
  rfl
theorem zEC (s : ByteArray) (k : Nat) (h : k < s.size) : sgn s k = if (97 ≤ (s[k].toNat : Int) ∧ (s[k].toNat : Int) ≤ 122) ∨ (k ≠ 0 ∧ 48 ≤ (s[k].toNat : Int) ∧ (s[k].toNat : Int) ≤ 57) then 0 else 4 := by
  unfold sgn isL isD
  rw [zDH s k h]
theorem zDU {s : ByteArray} (h1 : 1 ≤ s.size) (h2 : s.size ≤ 10) : nchk s = fst (sgn s) s.size := by
  unfold nchk; rw [if_neg (by omega)]
def Say (b : Bool) (P : Prop) : Prop := b = true ↔ P
theorem zBK (P : Prop) [Decidable P] : ∃ b : Bool, Say b P := ⟨decide P, by simp [Say]⟩
theorem Say.yes {P : Prop} (h : P) : Say true P := by simp [Say, h]
theorem Say.no {P : Prop} (h : ¬ P) : Say false P := by simp [Say, h]
theorem zAD {k : IntKind} {a b : Int} (h : a = b) : Ending.returned (.int k a) = .returned (.int k b) := by rw [h]
theorem zAO {a b : Bool} (h : a = b) : Ending.returned (.bool a) = .returned (.bool b) := by rw [h]
theorem zAU (c : Int) (r : Bool) (h : Say r ((48 : Int) ≤ c ∧ c ≤ 57)) (w : World) :
  Calls Tryz.prog 124 #[.int .u8 c] w fun e w' => e = .returned (.bool r) ∧ w' = w := by
 have H : Hid (Say r ((48 : Int) ≤ c ∧ c ≤ 57)) := h
 clear h
 go_enter Tryz.func124, Tryz.ntmps124
 go_wp2
 all_goals
  go_ret
  exact ⟨zAO (by have h := H.out; unfold Say at h; rw [Bool.eq_iff_iff, h]; simp <;> omega), rfl⟩
theorem zBD (c : Int) (r : Bool) (h : Say r ((97 : Int) ≤ c ∧ c ≤ 122)) (w : World) :
  Calls Tryz.prog 125 #[.int .u8 c] w fun e w' => e = .returned (.bool r) ∧ w' = w := by
 have H : Hid (Say r ((97 : Int) ≤ c ∧ c ≤ 122)) := h
 clear h
 go_enter Tryz.func125, Tryz.ntmps125
 go_wp2
 all_goals
  go_ret
  exact ⟨zAO (by have h := H.out; unfold Say at h; rw [Bool.eq_iff_iff, h]; simp <;> omega), rfl⟩
theorem zB6      (s : ByteArray) (w : World) :
    Calls Tryz.prog 81 #[.string s] w fun e w' => e = .returned (.int .i64 (nchk s)) ∧ w' = w := by
  by_cases hsz : 1 ≤ s.size ∧ s.size ≤ 10
  . obtain ⟨h1, h2⟩ := hsz
    have hp : 0 < s.size := by omega
    have HE : Hid (nchk s = fst (sgn s) s.size) := zDU h1 h2
    have HS : Hid (∀ k (h : k < s.size), sgn s k = if (97 ≤ (s[k].toNat : Int) ∧ (s[k].toNat : Int) ≤ 122) ∨ (k ≠ 0 ∧ 48 ≤ (s[k].toNat : Int) ∧ (s[k].toNat : Int) ≤ 57) then 0 else 4) := zEC s
    by_cases hd : (48 : Int) ≤ (s[0].toNat : Int) ∧ (s[0].toNat : Int) ≤ 57
    . have hx : fst (sgn s) s.size = 4 := by
        have e := zEC s 0 hp
        rw [if_neg (by omega)] at e
        rw [fst_hit (k := 0) rfl (by rw [e]; omega) hp, e]
      have HX : Hid (fst (sgn s) s.size = 4) := hx
      have HD : Hid ((48 : Int) ≤ (s[0].toNat : Int) ∧ (s[0].toNat : Int) ≤ 57) := hd
      clear hx hd
      go_enter Tryz.func81, Tryz.ntmps81
      go_wp2_with (go_at_call 124; refine (zAU _ true (Say.yes HD.out) _).mono ?_; rintro e w' ⟨rfl, rfl⟩)
      go_ret
      exact ⟨zAD (by rw [HE.out, HX.out]), rfl⟩
    . have HD : Hid (¬ ((48 : Int) ≤ (s[0].toNat : Int) ∧ (s[0].toNat : Int) ≤ 57)) := hd
      clear hd
      go_enter Tryz.func81, Tryz.ntmps81
      go_wp2_with (go_at_call 124; refine (zAU _ false (Say.no HD.out) _).mono ?_; rintro e w' ⟨rfl, rfl⟩)
      go_loop [17] (fun i => ∃ k : Nat, k ≤ s.size ∧ i = .int .i64 k ∧ fst (sgn s) k = 0) (fun i => s.size - (intOf i).toNat)
      case atStart => exact ⟨0, Nat.zero_le _, rfl, rfl⟩
      case round =>
        obtain ⟨k, hk, rfl, hf⟩ := hrel
        have HF : Hid (fst (sgn s) k = 0) := hf
        clear hf
        by_cases hlt : k < s.size
        . have HK : Hid (sgn s k = if (97 ≤ (s[k].toNat : Int) ∧ (s[k].toNat : Int) ≤ 122) ∨ (k ≠ 0 ∧ 48 ≤ (s[k].toNat : Int) ∧ (s[k].toNat : Int) ≤ 57) then 0 else 4) := HS.out k hlt
          have HD' : Hid (k = 0 → ¬ (48 ≤ (s[k].toNat : Int) ∧ (s[k].toNat : Int) ≤ 57)) := fun h => by subst h; exact HD.out
          obtain ⟨bl, hbl⟩ := zBK ((97 : Int) ≤ (s[k].toNat : Int) ∧ (s[k].toNat : Int) ≤ 122)
          obtain ⟨bd, hbd⟩ := zBK ((48 : Int) ≤ (s[k].toNat : Int) ∧ (s[k].toNat : Int) ≤ 57)
          have HL : Hid (Say bl ((97 : Int) ≤ (s[k].toNat : Int) ∧ (s[k].toNat : Int) ≤ 122)) := hbl
          have HDG : Hid (Say bd ((48 : Int) ≤ (s[k].toNat : Int) ∧ (s[k].toNat : Int) ≤ 57)) := hbd
          clear hbl hbd
          cases bl <;> cases bd
          all_goals go_wp2_with (first | (go_at_call 124; refine (zAU _ _ HDG.out _).mono ?_; rintro e w' ⟨rfl, rfl⟩) | (go_at_call 125; refine (zBD _ _ HL.out _).mono ?_; rintro e w' ⟨rfl, rfl⟩))
          all_goals
            have hl := HL.out
            have hdg := HDG.out
            simp [Say] at hl hdg
            have e := HK.out
            have e2 := HD'.out
          . rw [if_neg (by omega)] at e
            go_ret
            exact ⟨zAD (by rw [HE.out, fst_hit HF.out (by rw [e]; omega) hlt, e]), rfl⟩
          all_goals
            rw [if_pos (by omega)] at e
            have HEE : Hid (sgn s k = 0) := e
            clear e e2 hl hdg
            go_round
            case rel => exact ⟨k + 1, by omega, by go_num, fst_step HF.out HEE.out⟩
            case measure => simp [intOf]; omega
        . obtain rfl : k = s.size := by omega
          go_wp2
          go_ret
          exact ⟨zAD (by rw [HE.out, HF.out]), rfl⟩
  . have he : nchk s = 1 := by unfold nchk; rw [if_pos (by omega)]
    have HE : Hid (nchk s = 1) := he
    clear he
    go_enter Tryz.func81, Tryz.ntmps81
    go_wp2
    all_goals first
      | (go_ret
         exact ⟨zAD (by rw [HE.out]), rfl⟩)
      | (exfalso; omega)
def Tab (w : World) (g : Nat) (l : List (List UInt8)) : Prop := g < w.heap.size ∧ ∀ i : Nat, i < l.length → w.cell? ⟨g, i, none⟩ = some (.string (txt (l.getD i [])))
theorem Tab.fr {w w' : World} {X : Nat → Prop} {g : Nat} {l : List (List UInt8)} (h : Tab w g l) (b : Fr X w w') (hg : ¬ X g) : Tab w' g l :=
  ⟨Nat.lt_of_lt_of_le h.1 b.size, fun i hi => (World.cell?_of_block (a := ⟨g, i, none⟩) (b.block g h.1 hg)).trans (h.2 i hi)⟩
theorem Tab.range {w : World} {g : Nat} {l : List (List UInt8)} (h : Tab w g l) : w.rangeAt g 0 (l.map fun m => Value.string (txt m)) := by
 intro j v hv
 have hj : j < l.length := by
  have := (List.getElem?_eq_some_iff.1 hv).1
  rwa [List.length_map] at this
 rw [Nat.zero_add, h.2 j hj]
 rw [List.getElem?_map, List.getElem?_eq_getElem hj] at hv
 simp only [Option.map_some, Option.some.injEq] at hv
 rw [← hv]
 simp [List.getD, List.getElem?_eq_getElem hj]
theorem tab_at (l : List (List UInt8)) (k : Nat) (h : k < l.length) : ((l.map fun m => Value.string (txt m)).toArray)[k]? = some (.string (txt (l.getD k []))) := by
  simp [List.getD, List.getElem?_eq_getElem h]
theorem index_17 (AA : Array Value) (k : Nat) (v : Value) (hk : k < 17) (h : AA[k]? = some v) (w : World) :
  (Instr.index 167 (.agg AA) (.int .i64 k)).run Tryz.prog w = .ok v w := by
 have c : Tryz.prog.cellsOf 9 = 1 := by kernel_rfl
 simp [Instr.index, run_underlying Tryz.underlying167, asIntOf, go_sem, hk, h]
theorem index_13 (AA : Array Value) (k : Nat) (v : Value) (hk : k < 13) (h : AA[k]? = some v) (w : World) :
  (Instr.index 208 (.agg AA) (.int .i64 k)).run Tryz.prog w = .ok v w := by
 have c : Tryz.prog.cellsOf 9 = 1 := by kernel_rfl
 simp [Instr.index, run_underlying Tryz.underlying208, asIntOf, go_sem, hk, h]
theorem zCJ (l : List (List UInt8)) (k : Nat) (h : k < l.length) : l.getD k [] = l[k] := by simp [List.getD, List.getElem?_eq_getElem h]
theorem plc_at (s : List UInt8) (l : List (List UInt8)) (n k : Nat) (h : k < l.length) (e : s = l.getD k []) : plc s (l.drop k) n = n + 1 := by
  rw [List.drop_eq_getElem_cons h, plc, if_pos (by rw [e, zCJ l k h])]
theorem plc_no (s : List UInt8) (l : List (List UInt8)) (n k : Nat) (h : k < l.length) (e : ¬ s = l.getD k []) : plc s (l.drop k) n = plc s (l.drop (k + 1)) (n + 1) := by
  rw [List.drop_eq_getElem_cons h, plc, if_neg (by rw [← zCJ l k h]; exact e)]
theorem zE5 {a b : Int} (h : a = b) : Ending.returned (.int .i64 a) = .returned (.int .i64 b) := by rw [h]
theorem zGG (s : ByteArray) (w : World) (hT : Tab w 1 rll) :
  Calls Tryz.prog 83 #[.string s] w fun e w' => e = .returned (.int .i64 (rln s)) ∧ w' = w := by
 have HL : Hid (w.rangeAt 1 0 (rll.map fun m => Value.string (txt m))) := hT.range
 obtain ⟨r, hr⟩ : ∃ r, rln s = r := ⟨_, rfl⟩
 rw [hr]
 have HR : Hid (plc s.data.toList (rll.drop 0) 0 = r) := hr
 have HA : Hid (∀ k (h : k < 13), ((rll.map fun m => Value.string (txt m)).toArray)[k]? = some (.string (txt (rll.getD k [])))) := fun k h => tab_at rll k h
 clear hr hT
 go_enter Tryz.func83, Tryz.ntmps83
 go_wp2_with (refine wpList_load_mid (by rfl) 208 _ (by rfl) 1 0 (by rfl) (rll.map fun m => Value.string (txt m)) _ HL.out Tryz.underlying208 rfl (by kernel_rfl) ?_)
 obtain ⟨AA, hAA⟩ : ∃ AA, (rll.map fun m => Value.string (txt m)).toArray = AA := ⟨_, rfl⟩
 rw [hAA] at HA ⊢
 clear hAA HL
 go_loop [6] (fun i => ∃ k : Nat, k ≤ 13 ∧ i = .int .i64 k ∧ plc s.data.toList (rll.drop k) k = r) (fun i => 13 - (intOf i).toNat)
 case atStart => exact ⟨0, by omega, rfl, HR.out⟩
 case round =>
  obtain ⟨k, hk, rfl, hf⟩ := hrel
  have HF : Hid (plc s.data.toList (rll.drop k) k = r) := hf
  clear hf
  by_cases hlt : k < 13
  . obtain ⟨x, hx⟩ : ∃ x, txt (rll.getD k []) = x := ⟨_, rfl⟩
    have ha : ∀ W, (Instr.index 208 (.agg AA) (.int .i64 k)).run Tryz.prog W = .ok (.string x) W := fun W => by rw [← hx]; exact index_13 AA k _ hlt (HA.out k hlt) W
    have hxl : x.toList = rll.getD k [] := by rw [← hx, Lib.toList_data, zFN]
    by_cases he : s.data.toList = rll.getD k []
    . have hb : (s.toList == x.toList) = true := by rw [Lib.toList_data, hxl, he]; simp
      have HE : Hid (s.data.toList = rll.getD k []) := he
      clear he hx hxl
      go_wp2
      go_ret
      refine ⟨zE5 ?_, rfl⟩
      rw [← HF.out, plc_at _ _ _ _ hlt HE.out]
      rfl
    . have hb : (s.toList == x.toList) = false := by rw [Lib.toList_data, hxl]; simpa using he
      have HE : Hid (¬ s.data.toList = rll.getD k []) := he
      clear he hx hxl
      go_wp2
      exact ⟨⟨k + 1, by omega, by go_num, by rw [← plc_no _ _ _ _ hlt HE.out]; exact HF.out⟩, by simp [intOf]; omega⟩
  . obtain rfl : k = 13 := by omega
    go_wp2
    go_ret
    exact ⟨zE5 (by rw [← HF.out]; rfl), rfl⟩
theorem zHA (s : List UInt8) : ∀ (l : List (List UInt8)) (n : Nat), plc s l n ≠ 0 ↔ s ∈ l
 | [], n => by simp [plc]
 | x :: r, n => by
  rw [plc]
  by_cases h : s = x
  . simp [h]
  . simp [h, zHA s r (n + 1)]
theorem not_take (l : List (List UInt8)) (s : List UInt8) (k : Nat) (hk : k < l.length) (h : s ∉ l.take k) (h2 : ¬ s = l.getD k []) : s ∉ l.take (k + 1) := by
  rw [List.take_succ_eq_append_getElem hk, List.mem_append, List.mem_singleton]
  rw [zCJ l k hk] at h2
  rintro (x | x)
  . exact h x
  . exact h2 x
theorem getD_in (l : List (List UInt8)) (k : Nat) (h : k < l.length) : l.getD k [] ∈ l := by rw [zCJ l k h]; exact List.getElem_mem h
theorem zDP (s : ByteArray) (w : World) (hK : Tab w 0 kpl) (hT : Tab w 1 rll) :
  Calls Tryz.prog 54 #[.string s] w fun e w' => e = .returned (.bool (kpt s)) ∧ w' = w := by
 have HL : Hid (w.rangeAt 0 0 (kpl.map fun m => Value.string (txt m))) := hK.range
 have HT : Hid (Tab w 1 rll) := hT
 obtain ⟨r, hr⟩ : ∃ r, kpt s = r := ⟨_, rfl⟩
 rw [hr]
 have HR : Hid (kpt s = r) := hr
 have HA : Hid (∀ k (h : k < 17), ((kpl.map fun m => Value.string (txt m)).toArray)[k]? = some (.string (txt (kpl.getD k [])))) := fun k h => tab_at kpl k h
 clear hr hT hK
 go_enter Tryz.func54, Tryz.ntmps54
 go_wp2_with (refine wpList_load_mid (by rfl) 167 _ (by rfl) 0 0 (by rfl) (kpl.map fun m => Value.string (txt m)) _ HL.out Tryz.underlying167 rfl (by kernel_rfl) ?_)
 obtain ⟨AA, hAA⟩ : ∃ AA, (kpl.map fun m => Value.string (txt m)).toArray = AA := ⟨_, rfl⟩
 rw [hAA] at HA ⊢
 clear hAA HL
 go_loop [6] (fun i => ∃ k : Nat, k ≤ 17 ∧ i = .int .i64 k ∧ s.data.toList ∉ kpl.take k) (fun i => 17 - (intOf i).toNat)
 case atStart => exact ⟨0, by omega, rfl, by simp⟩
 case round =>
  obtain ⟨k, hk, rfl, hf⟩ := hrel
  have HF : Hid (s.data.toList ∉ kpl.take k) := hf
  clear hf
  by_cases hlt : k < 17
  . obtain ⟨x, hx⟩ : ∃ x, txt (kpl.getD k []) = x := ⟨_, rfl⟩
    have ha : ∀ W, (Instr.index 167 (.agg AA) (.int .i64 k)).run Tryz.prog W = .ok (.string x) W := fun W => by rw [← hx]; exact index_17 AA k _ hlt (HA.out k hlt) W
    have hxl : x.toList = kpl.getD k [] := by rw [← hx, Lib.toList_data, zFN]
    by_cases he : s.data.toList = kpl.getD k []
    . have hb : (s.toList == x.toList) = true := by rw [Lib.toList_data, hxl, he]; simp
      have HE : Hid (s.data.toList = kpl.getD k []) := he
      clear he hx hxl
      go_wp2
      go_ret
      refine ⟨zAO ?_, rfl⟩
      rw [← HR.out, kpt, HE.out, decide_eq_true (getD_in kpl k hlt)]
      rfl
    . have hb : (s.toList == x.toList) = false := by rw [Lib.toList_data, hxl]; simpa using he
      have HE : Hid (¬ s.data.toList = kpl.getD k []) := he
      clear he hx hxl
      go_wp2
      exact ⟨⟨k + 1, by omega, by go_num, not_take _ _ k hlt HF.out HE.out⟩, by simp [intOf]; omega⟩
  . obtain rfl : k = 17 := by omega
    obtain ⟨q, hq⟩ : ∃ q, rln s = q := ⟨_, rfl⟩
    have HC := zGG s w HT.out
    rw [hq] at HC
    have HC2 : Hid (Calls Tryz.prog 83 #[.string s] w fun e w' => e = .returned (.int .i64 q) ∧ w' = w) := HC
    have HQ : Hid (rln s = q) := hq
    clear hq HC
    go_wp2_with (go_at_call 83; refine HC2.out.mono ?_; rintro e w' ⟨rfl, rfl⟩)
    go_ret
    refine ⟨zAO ?_, rfl⟩
    rw [← HR.out, kpt, decide_eq_false (show s.data.toList ∉ kpl from HF.out), Bool.false_or, ← HQ.out]
    have := zHA s.data.toList rll 0
    by_cases c : s.data.toList ∈ rll
    . have h2 := this.2 c
      simp only [c, decide_true]
      simpa [rln] using h2
    . have h2 : plc s.data.toList rll 0 = 0 := by
       rcases Nat.eq_zero_or_pos (plc s.data.toList rll 0) with h | h
       . exact h
       . exact absurd (this.1 (by omega)) c
      simp [c, rln, h2]
theorem zAC {w : World} {g : Nat} {cs : Array Value} {T : TypeId} (h : w.heap[g]? = some (.cells cs T (0, 0))) (j : Nat) : w.cell? ⟨g, j, none⟩ = cs[j]? := cell_of_row _ _ j cs T (0, 0) h
theorem zET {w : World} {g : Nat} {cs : Array Value} {T : TypeId} (h : w.heap[g]? = some (.cells cs T (0, 0))) (j : Nat) : w.frozen? ⟨g, j, none⟩ = false := by
  simp [World.frozen?, h]
theorem zAH {w : World} {g : Nat} {o : Obj} (h : w.heap[g]? = some o) : g < w.heap.size := (Array.getElem?_eq_some_iff.1 h).1
theorem blk_set {w : World} {g : Nat} {cs : Array Value} {T : TypeId} (h : w.heap[g]? = some (.cells cs T (0, 0))) (j : Nat) (u : Value) : (w.setCell ⟨g, j, none⟩ u).heap[g]? = some (.cells (cs.setIfInBounds j u) T (0, 0)) := by
  simp [World.setCell, Array.getElem?_modify, h]
theorem res1 {P : Program} {fn : Func} {p : Tmp} {ty : TypeId} (h : fn.results = #[.cell p ty]) (tmps : Array Value) (w : World) (g : Nat) (cs : List Value) (d : TypeDesc)
  (hp : tmps.getD p undef = .pointer (some ⟨g, 0, none⟩)) (hc : w.rangeAt g 0 cs) (hu : P.underlying ty = some d) (hd : d.isRow = true) (hi : (P.info? ty).map (·.size) = some cs.length) :
  (results fn tmps).run P w = .ok (.agg cs.toArray) w := by
 have hp' : tmps[p]?.getD undef = .pointer (some ⟨g, 0, none⟩) := by simpa using hp
 simp [results, h, hp', asAddr, run_loadVar_mid w g 0 ty cs d hc hu hd hi]
theorem zAE {w : World} {g : Nat} {cs : List Value} {T : TypeId} (h : w.heap[g]? = some (.cells cs.toArray T (0, 0))) : w.rangeAt g 0 cs := by
  intro j v hv
  rw [Nat.zero_add, zAC h]
  simpa using hv
theorem zB8 {w : World} {g : Nat} {cs : Array Value} {T : TypeId} (h : w.heap[g]? = some (.cells cs T (0, 0))) (o n : Nat) (hn : o + n ≤ cs.size) : w.there g o n := by
  intro j hj
  rw [zAC h, Array.getElem?_eq_getElem (by omega)]
  exact ⟨rfl, zET h _⟩
theorem Fr.setCells {X : Nat → Prop} {a : World} {b : Nat} : ∀ {vs : List Value} {o : Nat} {w : World}, Fr X a w → (X b ∨ a.heap.size ≤ b) → Fr X a (w.setCells b o vs)
  | [], _, _, h, _ => h
  | v :: r, o, w, h, hp => Fr.setCells (vs := r) (h.setCell (p := ⟨b, o, none⟩) hp v) hp
def ovr (cs : List Value) (o : Nat) (vs : List Value) : List Value := cs.take o ++ (vs ++ cs.drop (o + vs.length))
theorem ovr_step (cs : List Value) (o : Nat) (v : Value) (r : List Value) (h : o < cs.length) : ovr (cs.set o v) (o + 1) r = ovr cs o (v :: r) := by
 unfold ovr
 have h1 : (cs.set o v).take (o + 1) = cs.take o ++ [v] := by
  rw [List.take_succ_eq_append_getElem (by simpa using h), List.take_set_of_le (Nat.le_refl _)]
  simp
 have h2 : (cs.set o v).drop (o + 1 + r.length) = cs.drop (o + (v :: r).length) := by
  rw [List.drop_set_of_lt (by omega), List.length_cons]
  congr 1
  omega
 rw [h1, h2]
 simp
theorem zB2 {b : Nat} {T : TypeId} : ∀ (vs : List Value) (o : Nat) (cs : List Value) (w : World), w.heap[b]? = some (.cells cs.toArray T (0, 0)) → o + vs.length ≤ cs.length → (w.setCells b o vs).heap[b]? = some (.cells (ovr cs o vs).toArray T (0, 0))
 | [], o, cs, w, h, _ => by
  have : ovr cs o [] = cs := by simp [ovr]
  rw [this]
  exact h
 | v :: r, o, cs, w, h, hl => by
  have hl' : o < cs.length := by simp at hl; omega
  rw [← ovr_step cs o v r hl']
  refine zB2 r (o + 1) (cs.set o v) (w.setCell ⟨b, o, none⟩ v) ?_ (by simp at hl ⊢; omega)
  rw [blk_set h]
  simp
theorem zGU {P : Program} (w : World) (b o : Nat) (ty : TypeId) (v : Value) (cells : Array Value) (hv : v.cells = cells) (ht : w.there b o cells.size) (hi : (P.info? ty).map (·.size) = some cells.size) (h1 : cells.all (·.oneCell') = true) :
  (storeVar ty ⟨b, o, none⟩ v).run P w = .ok () (w.setCells b o cells.toList) := by
 have := run_storeCells_cells (P := P) b o cells.toList 0 w (fun j hj => by simpa using (ht j (by simpa using hj)).1) (fun j hj => by simpa using (ht j (by simpa using hj)).2)
  (fun v hv => (Array.all_eq_true_iff_forall_mem.1 h1) v (by simpa using hv))
 cases hq : P.info? ty with
 | none => simp [hq] at hi
 | some i =>
  have hs : cells.size = i.size := by simp [hq] at hi; omega
  simp only [Nat.add_zero] at this
  simp [storeVar, sizeOf, typeInfo, hq, hv, hs, this]
theorem zA7 {P : Program} {ops : Array Oper} {rest : List Oper} {op : Oper} {a : Act} {w : World} {Q : Exit → Act → World → Prop} (hgd : op.guard = none) (ty : TypeId) (x y : Operand) (ho : op.op = .store ty x y)
  (b o : Nat) (cs : List Value) (T : TypeId) (v : Value) (vs : List Value) (hx : a.eval x = .pointer (some ⟨b, o, none⟩)) (hy : a.eval y = v) (hv : v.cells = vs.toArray) (hb : w.heap[b]? = some (.cells cs.toArray T (0, 0)))
  (hl : o + vs.length ≤ cs.length) (hi : (P.info? ty).map (·.size) = some vs.length) (h1 : vs.all (·.oneCell') = true)
  (h : ∀ w', w'.heap[b]? = some (.cells (ovr cs o vs).toArray T (0, 0)) → Fr (fun i => i = b) w w' → wpList P ops Q rest (a.put op.dst undef) w') : wpList P ops Q (op :: rest) a w := by
 refine wpList_plain hgd fun K hK => ?_
 unfold Oper.wp execOp
 simp only [ho, hx, hy, Instr.storeAt, Instr.sureAddr, Sem.run_bind, Sem.run_pure, Result.andThen_ok, zGU w b o ty v vs.toArray hv (zB8 hb o _ (by simpa using hl)) (by simpa using hi) (all_oneCell_toArray (List.all_eq_true.1 h1))]
 exact hK _ _ (h _ (zB2 vs o cs w hb hl) ((Fr.refl (fun i => i = b) w).setCells (.inl rfl)))
theorem wp_sq {P : Program} {ops : Array Oper} {rest : List Oper} {op : Oper} {a : Act} {w : World} {Q : Exit → Act → World → Prop} (ty : TypeId) {x y : Operand}
    (b o : Nat) (cs : List Value) (T : TypeId) (v : Value) (vs : List Value) (hb : w.heap[b]? = some (.cells cs.toArray T (0, 0)))
    (h : ∀ w', w'.heap[b]? = some (.cells (ovr cs o vs).toArray T (0, 0)) → Fr (fun i => i = b) w w' → wpList P ops Q rest (a.put op.dst undef) w') (hgd : op.guard = none := by rfl) (ho : op.op = .store ty x y := by rfl) (hx : a.eval x = .pointer (some ⟨b, o, none⟩) := by rfl) (hy : a.eval y = v := by rfl) (hv : v.cells = vs.toArray := by rfl)
    (hl : o + vs.length ≤ cs.length := by simp) (hi : (P.info? ty).map (·.size) = some vs.length := by kernel_rfl) (h1 : vs.all (·.oneCell') = true := by rfl) : wpList P ops Q (op :: rest) a w := zA7 hgd ty x y ho b o cs T v vs hx hy hv hb hl hi h1 h
theorem zB9   {P : Program} {ops : Array Oper} {rest : List Oper} {op : Oper} {a : Act} {w : World} {Q : Exit → Act → World → Prop} (ty : TypeId) {x y : Operand}
    (b o : Nat) (cs : List Value) (T : TypeId) (vs : List Value) (hb : w.heap[b]? = some (.cells cs.toArray T (0, 0)))
    (h : ∀ w', w'.heap[b]? = some (.cells (ovr cs o vs).toArray T (0, 0)) → Fr (fun i => i = b) w w' → wpList P ops Q rest (a.put op.dst undef) w') (hgd : op.guard = none := by rfl) (ho : op.op = .store ty x y := by rfl) (hx : a.eval x = .pointer (some ⟨b, o, none⟩) := by rfl) (hy : a.eval y = .agg vs.toArray := by rfl)
    (hl : o + vs.length ≤ cs.length := by simp) (hi : (P.info? ty).map (·.size) = some vs.length := by kernel_rfl) (h1 : vs.all (·.oneCell') = true := by rfl) : wpList P ops Q (op :: rest) a w := zA7 hgd ty x y ho b o cs T (.agg vs.toArray) vs hx hy rfl hb hl hi h1 h
abbrev opV (o : Opd) : Value := .agg #[.int .i64 o.k, .int .i64 o.vk, .int .i64 o.vi, .string o.vt, .string o.va, .string o.fd]
theorem zC0 (w : World) (a b : Obj) : ((w.alloc a).alloc b).heap[w.heap.size + 1]? = some b := by
  have := heap_alloc_new (w.alloc a) b
  simpa using this
theorem zDJ {P : Program} {fn : Func} {p : Tmp} {ty : TypeId} {a : Act} {w : World} {Q : Ending → World → Prop} (R : Nat) (cs : List Value) (T : TypeId) (d : TypeDesc) (hb : w.heap[R]? = some (.cells cs.toArray T (0, 0))) (h : fn.results = #[.cell p ty]) (hd : a.defers = [])
  (hp : a.tmps.getD p undef = .pointer (some ⟨R, 0, none⟩)) (hu : P.underlying ty = some d) (hr : d.isRow = true) (hi : (P.info? ty).map (·.size) = some cs.length) (hq : Q (.returned (.agg cs.toArray)) w) : bodyPost P fn Q .ret a w :=
 bodyPost_ret (res1 h a.tmps w R cs d hp (zAE hb) hu hr hi) hd hq
abbrev cnC (k : Int) (v : Value) (l r : Opd) : List Value := [.int .i64 k, v, .int .i64 l.k, .int .i64 l.vk, .int .i64 l.vi, .string l.vt, .string l.va, .string l.fd, .int .i64 r.k, .int .i64 r.vk, .int .i64 r.vi, .string r.vt, .string r.va, .string r.fd]
abbrev cnV (k : Int) (v : Value) (l r : Opd) : Value := .agg #[.int .i64 k, v, .int .i64 l.k, .int .i64 l.vk, .int .i64 l.vi, .string l.vt, .string l.va, .string l.fd, .int .i64 r.k, .int .i64 r.vk, .int .i64 r.vi, .string r.vt, .string r.va, .string r.fd]
end Go.Proofs.YtnlmknbhppdliaaGreatDoor
namespace Go.Proofs.YtnlmknbhppdliaaGreatDoor
open Go.ChangeShapes Go.WideShapes Go.ChangeAt Go.RowKit Go.Maps
set_option linter.unusedVariables false
set_option linter.unusedSimpArgs false
end Go.Proofs.YtnlmknbhppdliaaGreatDoor
namespace Go.Proofs.YtnlmknbhppdliaaGreatDoor
open Go.ChangeShapes Go.WideShapes Go.ChangeAt Go.RowKit Go.Deep Go.Joins
open Go.ChangeMaps (open_string shut_string)
set_option linter.unusedVariables false
set_option linter.unusedSimpArgs false
set_option maxRecDepth 20000
variable {H : Type} {enc : TypeId × Value → H} {W : World} {base b0 : Nat} {r : Reach} {spare : Nat → Bool} {held : Bool} {v : Value} {d : DataW H} {p : List MemPlace}
end Go.Proofs.YtnlmknbhppdliaaGreatDoor
namespace Go.Proofs.YtnlmknbhppdliaaGreatDoor
open Go.ChangeShapes Go.WideShapes Go.ChangeAt Go.RowKit Go.Maps Go.Deep
set_option linter.unusedVariables false
set_option linter.unusedSimpArgs false
end Go.Proofs.YtnlmknbhppdliaaGreatDoor
namespace Go.Proofs.YtnlmknbhppdliaaGreatDoor
open Go.ChangeShapes Go.WideShapes Go.ChangeAt Go.RowKit Go.Maps
set_option linter.unusedVariables false
set_option linter.unusedSimpArgs false
abbrev zP : Value := .agg #[.string ByteArray.empty, .string ByteArray.empty, .int .i64 0, .slice none 0 0, .int .i64 0, .int .i64 0, .int .i64 0, .string ByteArray.empty, .string ByteArray.empty, .string ByteArray.empty, .int .i64 0, .int .i64 0, .int .i64 0, .string ByteArray.empty, .string ByteArray.empty, .string ByteArray.empty, .int .i64 0, .int .i64 0]
theorem infoP : (Tryz.prog.info? 48).map (fun i => (i.zero, i.size, i.bytes)) = some (some zP, 18, 224) := by kernel_rfl
abbrev ptC (a b : ByteArray) (k : Int) (v : Value) (l r : Opd) (w n : Int) : List Value := [.string a, .string b, .int .i64 k, v, .int .i64 l.k, .int .i64 l.vk, .int .i64 l.vi, .string l.vt, .string l.va, .string l.fd, .int .i64 r.k, .int .i64 r.vk, .int .i64 r.vi, .string r.vt, .string r.va, .string r.fd, .int .i64 w, .int .i64 n]
abbrev ptV (a b : ByteArray) (k : Int) (v : Value) (l r : Opd) (w n : Int) : Value := .agg #[.string a, .string b, .int .i64 k, v, .int .i64 l.k, .int .i64 l.vk, .int .i64 l.vi, .string l.vt, .string l.va, .string l.fd, .int .i64 r.k, .int .i64 r.vk, .int .i64 r.vi, .string r.vt, .string r.va, .string r.fd, .int .i64 w, .int .i64 n]
end Go.Proofs.YtnlmknbhppdliaaGreatDoor
namespace Go.Proofs.YtnlmknbhppdliaaGreatDoor.Chk
open Go.ChangeShapes Go.WideShapes Go.ChangeAt Go.RowKit Go.Maps
set_option linter.unusedVariables false
set_option linter.unusedSimpArgs false
set_option maxRecDepth 20000
inductive Rd (w : World) : Dat → Value → Prop
  | lit (v : Value) : Rd w (.lit v) v
  | nil (e z : Nat) (p : Option Addr) (cap : Nat) : cap ≤ maxLen → Rd w (.row e z []) (.slice p 0 cap)
  | row (e z : Nat) (l : List (List Dat)) (g off cap : Nat) (xs : List Value) : 0 < l.length → l.length ≤ cap → cap ≤ maxLen → w.rangeAt g off xs → l.flatten.length = xs.length →
      (∀ k (hk : k < l.flatten.length), Rd w (l.flatten[k]) (xs.getD k nilV)) → Rd w (.row e z l) (.slice (some ⟨g, off, none⟩) l.length cap)
theorem zAK {w w' : World} {g o : Nat} {l : List Value} (h : w.rangeAt g o l) (hb : Below w.heap.size w w') : w'.rangeAt g o l := fun j x hx => (hb.cell (p := ⟨g, o + j, none⟩) (World.block_lt_of_cell? _ _ (h j x hx))).trans (h j x hx)
theorem Rd.later {w w' : World} {d : Dat} {v : Value} (h : Rd w d v) (hb : Below w.heap.size w w') : Rd w' d v := by
  induction h with
  | lit v => exact .lit v
  | nil e z p cap h => exact .nil e z p cap h
  | row e z l g off cap xs h1 h2 h3 h4 h5 _ ih => exact .row e z l g off cap xs h1 h2 h3 (zAK h4 hb) h5 ih
def RdL (w : World) (ds : List Dat) (vs : List Value) : Prop := ds.length = vs.length ∧ ∀ k (hk : k < ds.length), Rd w (ds[k]) (vs.getD k nilV)
theorem RdL.below {w w' : World} {ds : List Dat} {vs : List Value} (h : RdL w ds vs) (hb : Below w.heap.size w w') : RdL w' ds vs := ⟨h.1, fun k hk => (h.2 k hk).later hb⟩
theorem RdL.none {w : World} {vs : List Value} (h : RdL w [] vs) : vs = [] := List.eq_nil_of_length_eq_zero h.1.symm
theorem RdL.one {w : World} {d : Dat} {ds : List Dat} {vs : List Value} (h : RdL w (d :: ds) vs) : ∃ v r, vs = v :: r ∧ Rd w d v ∧ RdL w ds r := by
  cases vs with
  | nil => have := h.1; simp at this
  | cons v r => exact ⟨v, r, rfl, h.2 0 (by simp), by simpa using h.1, fun k hk => h.2 (k + 1) (by simpa using hk)⟩
theorem RdL.nil (w : World) : RdL w [] [] := ⟨rfl, fun k hk => by simp at hk⟩
theorem RdL.cons {w : World} {d : Dat} {v : Value} {ds : List Dat} {vs : List Value} (h : Rd w d v) (hl : RdL w ds vs) : RdL w (d :: ds) (v :: vs) := by
  refine ⟨by simp [hl.1], fun k hk => ?_⟩
  cases k with
  | zero => exact h
  | succ k => exact hl.2 k (by simpa using hk)
theorem RdL.split {w : World} : ∀ {ds es : List Dat} {vs : List Value}, RdL w (ds ++ es) vs → ∃ us rs, vs = us ++ rs ∧ RdL w ds us ∧ RdL w es rs
 | [], es, vs, h => ⟨[], vs, rfl, RdL.nil w, h⟩
 | d :: ds, es, vs, h => by
  obtain ⟨v, r, rfl, h1, h2⟩ := RdL.one h
  obtain ⟨us, rs, rfl, h3, h4⟩ := RdL.split h2
  exact ⟨v :: us, rs, rfl, RdL.cons h1 h3, h4⟩
theorem RdL.drop {w : World} : ∀ (k : Nat) {ds : List Dat} {vs : List Value}, RdL w ds vs → RdL w (ds.drop k) (vs.drop k)
 | 0, ds, vs, h => by simpa using h
 | k + 1, [], vs, h => by rw [RdL.none h]; simpa using RdL.nil w
 | k + 1, d :: ds, vs, h => by
  obtain ⟨v, r, rfl, _, h2⟩ := RdL.one h
  simpa using RdL.drop k h2
theorem zAI {w : World} {v u : Value} (h : Rd w (.lit v) u) : u = v := by cases h; rfl
theorem zEO {α : Type} {enc : α → List Dat} {z : Nat} (hz : ∀ x, (enc x).length = z) : ∀ (cs : List α) (k : Nat) (hk : k < cs.length), (cs.map enc).flatten.drop (k * z) = enc cs[k] ++ ((cs.drop (k + 1)).map enc).flatten
 | c :: r, 0, _ => by simp
 | c :: r, k + 1, hk => by
  have ih := zEO hz r k (by simpa using hk)
  simp only [List.map_cons, List.flatten_cons, List.getElem_cons_succ, List.drop_succ_cons]
  rw [show (k + 1) * z = z + k * z by rw [Nat.add_mul, Nat.one_mul, Nat.add_comm], ← List.drop_drop, List.drop_left' (hz c)]
  exact ih
def At {α : Type} (enc : α → List Dat) (z : Nat) (w : World) (p : Option Addr) (cs : List α) : Prop := 0 < cs.length → ∃ g off, p = some ⟨g, off, none⟩ ∧ ∀ W, Below w.heap.size w W → ∀ k (hk : k < cs.length), ∃ us, W.rangeAt g (off + k * z) us ∧ RdL W (enc cs[k]) us
theorem zAG {α : Type} {enc : α → List Dat} {e z : Nat} (hz : ∀ x, (enc x).length = z) {w : World} {v : Value} {cs : List α} (h : Rd w (.row e z (cs.map enc)) v) : ∃ p cap, v = .slice p cs.length cap ∧ (cs.length : Int) ≤ 9223372036854775807 ∧ At enc z w p cs := by
 generalize hd : Dat.row e z (cs.map enc) = d at h
 cases h with
 | lit v => cases hd
 | nil e z p cap h1 =>
  simp only [Dat.row.injEq] at hd
  have h0 : cs.length = 0 := by have := congrArg List.length hd.2.2; simpa using this
  exact ⟨p, cap, by rw [h0], by rw [h0]; decide, fun hp => by omega⟩
 | row e' z' l g off cap xs h1 h2 h3 h4 h5 h6 =>
  simp only [Dat.row.injEq] at hd
  obtain ⟨rfl, rfl, rfl⟩ := hd
  rw [List.length_map] at h1 h2 ⊢
  refine ⟨_, cap, rfl, by unfold maxLen at h3; omega, fun _ => ⟨g, off, rfl, fun W hW k hk => ?_⟩⟩
  have hl : RdL w (cs.map enc).flatten xs := ⟨h5, h6⟩
  have hdr := RdL.drop (k * z) hl
  rw [zEO hz cs k hk] at hdr
  obtain ⟨us, rs, e, q1, q2⟩ := RdL.split hdr
  refine ⟨us, zAK (fun j u hu => ?_) hW, q1.below hW⟩
  have hj : j < us.length := (List.getElem?_eq_some_iff.1 hu).1
  have h9 : xs[k * z + j]? = some u := by
   rw [← List.getElem?_drop, e, List.getElem?_append_left hj]
   exact hu
  have := h4 (k * z + j) u h9
  rw [← Nat.add_assoc] at this
  exact this
theorem rdP {w : World} {t : Pt} {vs : List Value} (h : RdL w (encP t) vs) : ∃ v, vs = ptC t.va t.ty t.c.k v t.c.l t.c.r t.w t.n ∧ Rd w (.row 46 14 t.c.sb) v := by
  obtain ⟨v0, r0, rfl, h0, h⟩ := RdL.one h
  obtain ⟨v1, r1, rfl, h1, h⟩ := RdL.one h
  obtain ⟨v2, r2, rfl, h2, h⟩ := RdL.one h
  obtain ⟨v3, r3, rfl, h3, h⟩ := RdL.one h
  obtain ⟨a0, r4, rfl, g0, h⟩ := RdL.one h
  obtain ⟨a1, r4, rfl, g1, h⟩ := RdL.one h
  obtain ⟨a2, r4, rfl, g2, h⟩ := RdL.one h
  obtain ⟨a3, r4, rfl, g3, h⟩ := RdL.one h
  obtain ⟨a4, r4, rfl, g4, h⟩ := RdL.one h
  obtain ⟨a5, r4, rfl, g5, h⟩ := RdL.one h
  obtain ⟨b0, r4, rfl, k0, h⟩ := RdL.one h
  obtain ⟨b1, r4, rfl, k1, h⟩ := RdL.one h
  obtain ⟨b2, r4, rfl, k2, h⟩ := RdL.one h
  obtain ⟨b3, r4, rfl, k3, h⟩ := RdL.one h
  obtain ⟨b4, r4, rfl, k4, h⟩ := RdL.one h
  obtain ⟨b5, r4, rfl, k5, h⟩ := RdL.one h
  obtain ⟨v4, r4, rfl, h4, h⟩ := RdL.one h
  obtain ⟨v5, r5, rfl, h5, h⟩ := RdL.one h
  rw [zAI h0, zAI h1, zAI h2, zAI g0, zAI g1, zAI g2, zAI g3, zAI g4, zAI g5, zAI k0, zAI k1, zAI k2, zAI k3, zAI k4, zAI k5, zAI h4, zAI h5, RdL.none h]
  exact ⟨v3, rfl, h3⟩
theorem rdF {w : World} {o : Fd} {vs : List Value} (h : RdL w (encF o) vs) : vs = [.string o.n, .int .i64 o.k] := by
  obtain ⟨v0, r0, rfl, h0, h⟩ := RdL.one h
  obtain ⟨v1, r1, rfl, h1, h⟩ := RdL.one h
  rw [zAI h0, zAI h1, RdL.none h]
theorem rdY {w : World} {t : Tp} {vs : List Value} (h : RdL w (encY t) vs) : ∃ v, vs = [.string t.n, v] ∧ Rd w (.row 103 2 (t.f.map encF)) v := by
  obtain ⟨v0, r0, rfl, h0, h⟩ := RdL.one h
  obtain ⟨v1, r1, rfl, h1, h⟩ := RdL.one h
  rw [zAI h0, RdL.none h]
  exact ⟨v1, rfl, h1⟩
theorem lenC (c : Cn) : (encC c).length = 14 := rfl
theorem lenP (c : Pt) : (encP c).length = 18 := rfl
theorem lenO (c : Opd) : (encO c).length = 6 := rfl
theorem lenM (c : Mn) : (encM c).length = 20 := rfl
theorem lenK (c : Lk) : (encK c).length = 3 := rfl
theorem lenQ (c : Op3) : (encQ c).length = 3 := rfl
theorem lenR (c : Rl) : (encR c).length = 7 := rfl
theorem lenY (c : Tp) : (encY c).length = 2 := rfl
theorem lenF (c : Fd) : (encF c).length = 2 := rfl
def ixq {α : Type} (q : α → Bool) : List α → Nat → Int
  | [], _ => -1
  | x :: r, n => if q x = true then (n : Int) else ixq q r (n + 1)
theorem zBB {α : Type} {q : α → Bool} : ∀ (l : List α) (n k : Nat) (hk : k < l.length), (∀ j (hj : j < k), q (l[j]'(by omega)) = false) → q l[k] = true → ixq q l n = (n + k : Nat)
 | x :: r, n, 0, _, _, h => by simp only [List.getElem_cons_zero] at h; rw [ixq, if_pos h]; rfl
 | x :: r, n, k + 1, hk, h0, h => by
  have h1 : q x = false := h0 0 (by omega)
  rw [ixq, if_neg (by rw [h1]; decide), zBB r (n + 1) k (by simpa using hk) (fun j hj => h0 (j + 1) (by omega)) h]
  simp only [Int.natCast_inj]
  omega
theorem zAZ {α : Type} {q : α → Bool} : ∀ (l : List α) (n : Nat), (∀ x, x ∈ l → q x = false) → ixq q l n = -1
  | [], n, _ => rfl
  | x :: r, n, h => by rw [ixq, if_neg (by rw [h x (by simp)]; decide), zAZ r (n + 1) fun y hy => h y (by simp [hy])]
theorem zA2 {α : Type} {q : α → Bool} : ∀ (l : List α) (n : Nat), ixq q l n = -1 ∨ ∃ k : Nat, ∃ hk : k < l.length, ixq q l n = (n + k : Nat) ∧ q l[k] = true
 | [], n => .inl rfl
 | x :: r, n => by
  unfold ixq
  by_cases h : q x = true
  . rw [if_pos h]; exact .inr ⟨0, by simp, by simp, h⟩
  . rw [if_neg h]
    rcases zA2 (q := q) r (n + 1) with c | ⟨k, hk, e, h2⟩
    . exact .inl c
    . exact .inr ⟨k + 1, by simpa using hk, by rw [e]; simp only [Int.natCast_inj]; omega, h2⟩
end Go.Proofs.YtnlmknbhppdliaaGreatDoor.Chk
namespace Go.Proofs.YtnlmknbhppdliaaGreatDoor
open Go.ChangeShapes Go.WideShapes Go.ChangeAt Go.RowKit
set_option linter.unusedVariables false
set_option linter.unusedSimpArgs false
end Go.Proofs.YtnlmknbhppdliaaGreatDoor
namespace Go.Proofs.YtnlmknbhppdliaaGreatDoor.Chk
open Go.ChangeShapes Go.WideShapes Go.ChangeAt Go.RowKit Go.Maps
set_option linter.unusedVariables false
set_option linter.unusedSimpArgs false
set_option maxRecDepth 20000
def seq (a b : ByteArray) : Bool := a.toList == b.toList
def tyq (ts : List Tp) (n : ByteArray) : Int := ixq (fun t => seq t.n n) ts 0
def ptq (l : List Pt) (n : ByteArray) : Int := ixq (fun p => seq p.va n) l 0
def fdq (fs : List Fd) (n : ByteArray) : Int := ixq (fun f => seq f.n n) fs 0
theorem zAJ {B : Nat} {a w : World} (h : Below B a w) (n : Nat) : Below B a (w.drewN n) := h.trans ⟨rfl, rfl, rfl, Nat.le_refl _, fun _ _ => rfl⟩
def frn (s : ByteArray) : Int := if nchk s = 0 ∧ kpt s = true then 4 else nchk s
end Go.Proofs.YtnlmknbhppdliaaGreatDoor.Chk
namespace Go.Proofs.YtnlmknbhppdliaaGreatDoor
open Go.ChangeShapes Go.WideShapes Go.ChangeAt Go.RowKit Go.Maps
set_option linter.unusedVariables false
set_option linter.unusedSimpArgs false
end Go.Proofs.YtnlmknbhppdliaaGreatDoor
namespace Go.Proofs.YtnlmknbhppdliaaGreatDoor.Chk
open Go.ChangeShapes Go.WideShapes Go.ChangeAt Go.RowKit Go.Maps
set_option linter.unusedVariables false
set_option linter.unusedSimpArgs false
set_option maxRecDepth 20000
def emp (s : ByteArray) : Bool := s.toList == []
def vck (vk vi : Int) (vt : ByteArray) : Int :=
  if vk = 1 then (if emp vt = false then 4 else if -1125899906842624 ≤ vi ∧ vi ≤ 1125899906842624 then 0 else 2)
  else if vk = 2 then (if vi = 0 then (if 20 < vt.size then 1 else 0) else 4) else 3
theorem zCE {s : ByteArray} (h : emp s = true) : s.toList = [] := by simpa [emp] using h
theorem zDI {s : ByteArray} (h : emp s = false) : ¬ s.toList = [] ∧ (s.toList == []) = false := ⟨by simpa [emp] using h, h⟩
def fck (fs : List Fd) (n : ByteArray) : Int × Int := if fdq fs n < 0 then (0, 6) else ((fs.getD (fdq fs n).toNat ⟨txt [], 0⟩).k, 0)
def tyOf (ts : List Tp) (kn : List Pt) (va : ByteArray) : Tp := ts.getD (tyq ts (kn.getD (ptq kn va).toNat ⟨txt [], txt [], cn0, 0, 0⟩).ty).toNat ⟨txt [], []⟩
def nzv (o : Opd) : Bool := !(decide (o.vk = 0) && decide (o.vi = 0) && emp o.vt)
def sdk (ts : List Tp) (kn : List Pt) (own : Tp) (o : Opd) : Int × Int :=
  if ¬ (1 ≤ o.k ∧ o.k ≤ 3) then (0, 3)
  else if o.k = 1 then (if emp o.va = false ∨ emp o.fd = false then (0, 4) else (o.vk, vck o.vk o.vi o.vt))
  else if o.k = 2 then (if emp o.va = false ∨ nzv o = true then (0, 4) else fck own.f o.fd)
  else (if ptq kn o.va < 0 then (0, 6) else if nzv o = true then (0, 4) else fck (tyOf ts kn o.va).f o.fd)
theorem zBC {P : Program} {ops : Array Oper} {Q : Exit → Act → World → Prop} {S : World → Prop} {id : Nat} {a : Act} {w : World} (n : Nat) (l : Array Bool) (hn : ops.size = n) (hl : Array.replicate n false = l) (hm : P.follows .mixedOrders = true) (hS : S w.drew)
  (h : S w.drew → wpAnyH P .any ops Q S n l a w.drew) : (Code.region id ops true).wp P Q a w := by
 subst hn hl
 exact wp_region_held_drew hm hS h
theorem zGS     {P : Program} {ops : Array Oper} {Q : Exit → Act → World → Prop} {md : Region.Mode} {S : World → Prop} {i : Nat} {d : _} {op : _} {t : _} {p : _} {af : _} {gd : _} {v : Value} {fuel : Nat} {listed : Array Bool} {a : Act} {w : World} (hi : ops[i]? = some (Oper.mk d op t p af gd))
    (hs : Region.noSelect ops = true) (hf : Region.free md ops listed i = true) (hr : (Region.ready md ops listed).contains i = true) (hQ : ∀ c a w, Q (.panic c) (a.put d v) w → Q (.panic c) a w) (hy : YieldsIf P ops S (Oper.mk d op t p af gd) v a) (hS : S w)
    (h : wpAnyH P md ops Q S fuel (listed.setIfInBounds i true) (a.put d v) w) : wpAnyH P md ops Q S (fuel + 1) listed a w := wpAnyH_take hi hs hf hr hQ hy hS h
theorem gLq {P : Program} {ops : Array Oper} {Q : Exit → Act → World → Prop} {d : _} {T : TypeId} {x : Operand} {t : _} {p : _} {af : _} {gd : _} {r : List Oper} {a : Act} {w : World} (h : wpList P ops Q (Oper.mk d (.load T x) t p af gd :: r) a w) : wpList P ops Q (Oper.mk d (.load T x) t p af gd :: r) a w := h
theorem gSq {P : Program} {ops : Array Oper} {Q : Exit → Act → World → Prop} {d : _} {T : TypeId} {x y : Operand} {t : _} {p : _} {af : _} {gd : _} {r : List Oper} {a : Act} {w : World} (h : wpList P ops Q (Oper.mk d (.store T x y) t p af gd :: r) a w) : wpList P ops Q (Oper.mk d (.store T x y) t p af gd :: r) a w := h
theorem puts : (∀ (a : Act) (i : Nat) (v : Value), a.put (some i) v = { a with tmps := a.tmps.setIfInBounds i v }) ∧ (∀ (a : Act) (v : Value), a.put none v = a) ∧ (∀ (l : List Value) (i : Nat) (v : Value), l.toArray.setIfInBounds i v = (l.set i v).toArray) ∧ (∀ (x y : Value) (l : List Value), (x :: l).set 0 y = y :: l) ∧ (∀ (x y : Value) (l : List Value) (n : Nat), (x :: l).set (n + 1) y = x :: l.set n y) :=
  ⟨fun _ _ _ => rfl, fun _ _ => rfl, fun _ _ _ => by simp, fun _ _ _ => rfl, fun _ _ _ _ => rfl⟩
theorem tlq {P : Program} {ops : Array Oper} {Q : Exit → Act → World → Prop} {md : Region.Mode} {S : World → Prop} {i : Nat} {d : _} {op : _} {t : _} {p : _} {af : _} {gd : _} {v : Value} {fuel : Nat} {listed : Array Bool} {a : Act} {w : World} (hi : ops[i]? = some (Oper.mk d op t p af gd)) (hy : YieldsIf P ops S (Oper.mk d op t p af gd) v a)
    (h : wpAnyH P md ops Q S fuel (listed.setIfInBounds i true) (a.put d v) w) (hs : Region.noSelect ops = true := by kernel_rfl) (hf : Region.free md ops listed i = true := by kernel_rfl) (hr : (Region.ready md ops listed).contains i = true := by kernel_rfl) (hQ : ∀ c a w, Q (.panic c) (a.put d v) w → Q (.panic c) a w := by exact fun _ _ _ h => h) (hS : S w := by assumption) : wpAnyH P md ops Q S (fuel + 1) listed a w := zGS hi hs hf hr hQ hy hS h
theorem tkq {P : Program} {ops : Array Oper} {Q : Exit → Act → World → Prop} {md : Region.Mode} {S : World → Prop} {i : Nat} {d : _} {op : _} {t : _} {p : _} {af : _} {gd : _} {v : Value} {fuel : Nat} {listed : Array Bool} {a : Act} {w : World} (hi : ops[i]? = some (Oper.mk d op t p af gd)) (hy : ∀ w, S w → (execOp a.eval (Oper.mk d op t p af gd)).run P w = .ok (.value v) w)
    (h : wpAnyH P md ops Q S fuel (listed.setIfInBounds i true) (a.put d v) w) (hw : Region.wanted (Oper.mk d op t p af gd) (yielded ops a.tmps) = true := by rfl) (hs : Region.noSelect ops = true := by kernel_rfl) (hf : Region.free md ops listed i = true := by kernel_rfl) (hr : (Region.ready md ops listed).contains i = true := by kernel_rfl) (hQ : ∀ c a w, Q (.panic c) (a.put d v) w → Q (.panic c) a w := by exact fun _ _ _ h => h) (hS : S w := by assumption) : wpAnyH P md ops Q S (fuel + 1) listed a w := zGS hi hs hf hr hQ (Or.inl ⟨hw, hy⟩) hS h
theorem zAV     {P : Program} {ops : Array Oper} {Q : Exit → Act → World → Prop} {md : Region.Mode} {S : World → Prop} {i : Nat} {d : _} {op : _} {t : _} {p : _} {af : _} {gd : _} {fuel : Nat} {listed : Array Bool} {a : Act} {w : World} {rs : List Nat} (ho : ops[i]? = some (Oper.mk d op t p af gd))
    (h : ∀ K' : Act → World → Prop, Shut (∀ a w, S w → (S w → wpAnyH P md ops Q S fuel (listed.setIfInBounds i true) a w) → K' a w) → if Region.wanted (Oper.mk d op t p af gd) (yielded ops a.tmps) = true then Oper.wp P (Oper.mk d op t p af gd) a w K' Q else K' (a.put d undef) w)
    (hs : AllReadyH P md ops Q S fuel listed a w rs) : AllReadyH P md ops Q S fuel listed a w (i :: rs) := AllReadyH.cons ho h hs
def zA9 (ts : List Tp) (kn : List Pt) : Prop := ∀ j (hj : j < kn.length), ∃ i, ∃ _ : i < ts.length, tyq ts kn[j].ty = (i : Int)
def ock (r lo hi : Int) : Int := if ¬ (1 ≤ r ∧ r ≤ 13) then 3 else if ¬ (0 ≤ lo ∧ lo ≤ 1073741824) ∨ ¬ (-1 ≤ hi ∧ hi ≤ 1073741824) then 2 else if hi ≠ -1 ∧ hi < lo then 11 else 0
def sck (fs : List Fd) (n : ByteArray) : Int := if (fck fs n).2 ≠ 0 then 6 else if (fck fs n).1 = 1 then 0 else 13
structure BlkT (w0 w : World) (us : List Value) (t : TypeId) : Prop where
  bel : Below w0.heap.size w0 w
  b1 : w.heap[w0.heap.size]? = some (.cells us.toArray t (0, 0))
theorem BlkT.start (w : World) (us : List Value) (t : TypeId) : BlkT w (w.alloc (.cells us.toArray t)) us t := ⟨(Below.refl _ _).alloc (Nat.le_refl _) _, heap_alloc_new _ _⟩
theorem BlkT.next {w0 w w' : World} {us : List Value} {t : TypeId} (h : BlkT w0 w us t) (hb : Below w.heap.size w w') : BlkT w0 w' us t := ⟨zAA h.bel hb h.bel.size, (hb.block _ (zAH h.b1)).trans h.b1⟩
theorem BlkT.c {w0 w : World} {us : List Value} {t : TypeId} (h : BlkT w0 w us t) (j : Nat) : w.cell? ⟨w0.heap.size, j, none⟩ = us[j]? := by rw [zAC h.b1]; simp
end Go.Proofs.YtnlmknbhppdliaaGreatDoor.Chk
