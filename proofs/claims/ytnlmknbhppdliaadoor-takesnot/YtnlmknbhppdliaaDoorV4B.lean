/-
  What Check and the document say of a value. What Name and the document say of a name. What checkAll says of values, one by one. How two values compare. Compare, and what the document says of it. The walk of Compare, and of the law over it. Fields: which one has a name; what is wrong with one. CheckType. What the document says of a type. The walk of ValueTypes. Field, and what the document says of it. Types and fields: the program's answers in the words of the reference's.
-/
import Derived.Lib.SmallJoins
import Derived.Test.YtnlmknbhppdliaaDoorG
set_option maxHeartbeats 64000000
namespace Go.Proofs.YtnlmknbhppdliaaDoor.V4
open Go.ChangeShapes Go.WideShapes Go.ChangeAt Go.RowKit
set_option linter.unusedVariables false
set_option linter.unusedSimpArgs false
set_option maxRecDepth 20000
theorem zAC {k : IntKind} {a b : Int} (h : a = b) : Ending.returned (.int k a) = .returned (.int k b) := by rw [h]
theorem vchk_eq (v : Vl) : vchk v = if v.k = 1 then (if v.s.toList ≠ [] then 4 else if v.n < -1125899906842624 ∨ 1125899906842624 < v.n then 2 else 0) else if v.k ≠ 2 then 3 else if v.n ≠ 0 then 4 else if 20 < v.s.size then 1 else 0 := by
 unfold vchk
 by_cases h1 : v.k = 1
 . by_cases h2 : v.s.toList = []
   . have := size_nil h2
     simp [h1, h2, this]
   . simp [h1, h2]
 . by_cases h2 : v.k = 2
   . by_cases h3 : v.n = 0
     . simp [h2, h3]
     . simp [h2, h3]
   . simp [h1, h2]
theorem check_any (v : Vl) (w : World) :
  Calls Tryd.prog 62 #[vV v] w fun e w' => e = .returned (.int .i64 (vchk v)) ∧ Below w.heap.size w w' := by
 obtain ⟨k, n, s⟩ := v
 unfold vV
 have hz : s.toList = [] → s.size = 0 := size_nil
 have HZ : Hid (s.toList = [] → s.size = 0) := hz
 clear hz
 go_enter Tryd.func62, Tryd.ntmps62
 go_wp2
 all_goals
  go_ret
  refine ⟨zAC ?_, (Below.refl _ _).alloc (Nat.le_refl _) _⟩
  have hz := HZ.out
  rw [vchk_eq]
  simp_all <;> omega
theorem zEH (s : ByteArray) (k : Nat) (h : k < s.size) : zD1 s k = (s[k].toNat : Int) := by
  unfold zD1
  have h' : k < s.data.toList.length := by simpa using h
  rw [List.getD_eq_getElem?_getD, List.getElem?_eq_getElem h']
  rfl
theorem zEW (s : ByteArray) (k : Nat) (h : k < s.size) : sgn s k = if (97 ≤ (s[k].toNat : Int) ∧ (s[k].toNat : Int) ≤ 122) ∨ (k ≠ 0 ∧ 48 ≤ (s[k].toNat : Int) ∧ (s[k].toNat : Int) ≤ 57) then 0 else 4 := by
  unfold sgn isL isD
  rw [zEH s k h]
theorem zDR {s : ByteArray} (h1 : 1 ≤ s.size) (h2 : s.size ≤ 10) : nchk s = fst (sgn s) s.size := by
  unfold nchk; rw [if_neg (by omega)]
def Say (b : Bool) (P : Prop) : Prop := b = true ↔ P
theorem zB4 (P : Prop) [Decidable P] : ∃ b : Bool, Say b P := ⟨decide P, by simp [Say]⟩
theorem Say.yes {P : Prop} (h : P) : Say true P := by simp [Say, h]
theorem Say.no {P : Prop} (h : ¬ P) : Say false P := by simp [Say, h]
theorem zAX {a b : Bool} (h : a = b) : Ending.returned (.bool a) = .returned (.bool b) := by rw [h]
theorem zA0 (c : Int) (r : Bool) (h : Say r ((48 : Int) ≤ c ∧ c ≤ 57)) (w : World) :
  Calls Tryd.prog 66 #[.int .u8 c] w fun e w' => e = .returned (.bool r) ∧ w' = w := by
 have H : Hid (Say r ((48 : Int) ≤ c ∧ c ≤ 57)) := h
 clear h
 go_enter Tryd.func66, Tryd.ntmps66
 go_wp2
 all_goals
  go_ret
  exact ⟨zAX (by have h := H.out; unfold Say at h; rw [Bool.eq_iff_iff, h]; simp <;> omega), rfl⟩
theorem zBQ (c : Int) (r : Bool) (h : Say r ((97 : Int) ≤ c ∧ c ≤ 122)) (w : World) :
  Calls Tryd.prog 67 #[.int .u8 c] w fun e w' => e = .returned (.bool r) ∧ w' = w := by
 have H : Hid (Say r ((97 : Int) ≤ c ∧ c ≤ 122)) := h
 clear h
 go_enter Tryd.func67, Tryd.ntmps67
 go_wp2
 all_goals
  go_ret
  exact ⟨zAX (by have h := H.out; unfold Say at h; rw [Bool.eq_iff_iff, h]; simp <;> omega), rfl⟩
theorem zCM      (s : ByteArray) (w : World) :
    Calls Tryd.prog 44 #[.string s] w fun e w' => e = .returned (.int .i64 (nchk s)) ∧ w' = w := by
  by_cases hsz : 1 ≤ s.size ∧ s.size ≤ 10
  . obtain ⟨h1, h2⟩ := hsz
    have hp : 0 < s.size := by omega
    have HE : Hid (nchk s = fst (sgn s) s.size) := zDR h1 h2
    have HS : Hid (∀ k (h : k < s.size), sgn s k = if (97 ≤ (s[k].toNat : Int) ∧ (s[k].toNat : Int) ≤ 122) ∨ (k ≠ 0 ∧ 48 ≤ (s[k].toNat : Int) ∧ (s[k].toNat : Int) ≤ 57) then 0 else 4) := zEW s
    by_cases hd : (48 : Int) ≤ (s[0].toNat : Int) ∧ (s[0].toNat : Int) ≤ 57
    . have hx : fst (sgn s) s.size = 4 := by
        have e := zEW s 0 hp
        rw [if_neg (by omega)] at e
        rw [fst_hit (k := 0) rfl (by rw [e]; omega) hp, e]
      have HX : Hid (fst (sgn s) s.size = 4) := hx
      have HD : Hid ((48 : Int) ≤ (s[0].toNat : Int) ∧ (s[0].toNat : Int) ≤ 57) := hd
      clear hx hd
      go_enter Tryd.func44, Tryd.ntmps44
      go_wp2_with (go_at_call 66; refine (zA0 _ true (Say.yes HD.out) _).mono ?_; rintro e w' ⟨rfl, rfl⟩)
      go_ret
      exact ⟨zAC (by rw [HE.out, HX.out]), rfl⟩
    . have HD : Hid (¬ ((48 : Int) ≤ (s[0].toNat : Int) ∧ (s[0].toNat : Int) ≤ 57)) := hd
      clear hd
      go_enter Tryd.func44, Tryd.ntmps44
      go_wp2_with (go_at_call 66; refine (zA0 _ false (Say.no HD.out) _).mono ?_; rintro e w' ⟨rfl, rfl⟩)
      go_loop [17] (fun i => ∃ k : Nat, k ≤ s.size ∧ i = .int .i64 k ∧ fst (sgn s) k = 0) (fun i => s.size - (intOf i).toNat)
      case atStart => exact ⟨0, Nat.zero_le _, rfl, rfl⟩
      case round =>
        obtain ⟨k, hk, rfl, hf⟩ := hrel
        have HF : Hid (fst (sgn s) k = 0) := hf
        clear hf
        by_cases hlt : k < s.size
        . have HK : Hid (sgn s k = if (97 ≤ (s[k].toNat : Int) ∧ (s[k].toNat : Int) ≤ 122) ∨ (k ≠ 0 ∧ 48 ≤ (s[k].toNat : Int) ∧ (s[k].toNat : Int) ≤ 57) then 0 else 4) := HS.out k hlt
          have HD' : Hid (k = 0 → ¬ (48 ≤ (s[k].toNat : Int) ∧ (s[k].toNat : Int) ≤ 57)) := fun h => by subst h; exact HD.out
          obtain ⟨bl, hbl⟩ := zB4 ((97 : Int) ≤ (s[k].toNat : Int) ∧ (s[k].toNat : Int) ≤ 122)
          obtain ⟨bd, hbd⟩ := zB4 ((48 : Int) ≤ (s[k].toNat : Int) ∧ (s[k].toNat : Int) ≤ 57)
          have HL : Hid (Say bl ((97 : Int) ≤ (s[k].toNat : Int) ∧ (s[k].toNat : Int) ≤ 122)) := hbl
          have HDG : Hid (Say bd ((48 : Int) ≤ (s[k].toNat : Int) ∧ (s[k].toNat : Int) ≤ 57)) := hbd
          clear hbl hbd
          cases bl <;> cases bd
          all_goals go_wp2_with (first | (go_at_call 66; refine (zA0 _ _ HDG.out _).mono ?_; rintro e w' ⟨rfl, rfl⟩) | (go_at_call 67; refine (zBQ _ _ HL.out _).mono ?_; rintro e w' ⟨rfl, rfl⟩))
          all_goals
            have hl := HL.out
            have hdg := HDG.out
            simp [Say] at hl hdg
            have e := HK.out
            have e2 := HD'.out
          . rw [if_neg (by omega)] at e
            go_ret
            exact ⟨zAC (by rw [HE.out, fst_hit HF.out (by rw [e]; omega) hlt, e]), rfl⟩
          all_goals
            rw [if_pos (by omega)] at e
            have HEE : Hid (sgn s k = 0) := e
            clear e e2 hl hdg
            go_round
            case rel => exact ⟨k + 1, by omega, by go_num, fst_step HF.out HEE.out⟩
            case measure => simp [intOf]; omega
        . obtain rfl : k = s.size := by omega
          go_wp2
          go_ret
          exact ⟨zAC (by rw [HE.out, HF.out]), rfl⟩
  . have he : nchk s = 1 := by unfold nchk; rw [if_pos (by omega)]
    have HE : Hid (nchk s = 1) := he
    clear he
    go_enter Tryd.func44, Tryd.ntmps44
    go_wp2
    all_goals first
      | (go_ret
         exact ⟨zAC (by rw [HE.out]), rfl⟩)
      | (exfalso; omega)
theorem vat_at {l : List Vl} {k : Nat} (h : k < l.length) : vat l k = vchk l[k] := by unfold vat; rw [List.getElem?_eq_getElem h]
theorem zCJ (v : Value) (l : List Vl) (w : World) (hv : ValsAt w v l) :
  Calls Tryd.prog 40 #[v] w fun e w' => e = .returned (.int .i64 (fst (vat l) l.length)) ∧ Below w.heap.size w w' := by
 obtain ⟨p, cap, rfl, hcap, hmax, hp⟩ := hv
 obtain ⟨n, hnl⟩ : ∃ n, l.length = n := ⟨_, rfl⟩
 have HP : Hid (0 < l.length → ∃ g off, p = some ⟨g, off, none⟩ ∧ ∀ j (hj : j < l.length), g < w.heap.size ∧ w.cell? ⟨g, off + j * 3, none⟩ = some (.int .i64 l[j].k) ∧ w.cell? ⟨g, off + j * 3 + 1, none⟩ = some (.int .i64 l[j].n) ∧ w.cell? ⟨g, off + j * 3 + 2, none⟩ = some (.string l[j].s)) := hp
 have HNL : Hid (l.length = n) := hnl
 have hmx : (n : Int) ≤ 9223372036854775807 := by unfold maxLen at hmax; omega
 rw [hnl]
 clear hp hnl hcap hmax
 go_enter Tryd.func40, Tryd.ntmps40
 go_wp2
 go_loopw [8] (fun i wr => ∃ k : Nat, k ≤ n ∧ i = .int .i64 (k : Nat) ∧ fst (vat l) k = 0 ∧ Below w.heap.size w wr) (fun i _ => n + 1 - (intOf i).toNat)
 case atStart => exact ⟨0, by omega, rfl, rfl, Below.refl _ _⟩
 case round =>
  obtain ⟨k, hk, rfl, hf, hB⟩ := hrel
  have HF : Hid (fst (vat l) k = 0) := hf
  have HB : Hid (Below w.heap.size w wr) := hB
  by_cases hlt : k < n
  . have hkd : k < l.length := by have := HNL.out; omega
    obtain ⟨g, off, hg, hc⟩ := HP.out (by omega)
    obtain ⟨hgs, c0, c1, c2⟩ := hc k hkd
    subst hg
    have HV : Hid (vat l k = vchk l[k]) := vat_at hkd
    obtain ⟨d, hdk⟩ : ∃ d, l[k] = d := ⟨_, rfl⟩
    rw [hdk] at c0 c1 c2 HV
    have b0 : wr.cell? ⟨g, off + k * 3, none⟩ = some (.int .i64 d.k) := (hB.cell (p := ⟨g, off + k * 3, none⟩) hgs).trans c0
    have b1 : wr.cell? ⟨g, off + k * 3 + 1, none⟩ = some (.int .i64 d.n) := (hB.cell (p := ⟨g, off + k * 3 + 1, none⟩) hgs).trans c1
    have b2 : wr.cell? ⟨g, off + k * 3 + 2, none⟩ = some (.string d.s) := (hB.cell (p := ⟨g, off + k * 3 + 2, none⟩) hgs).trans c2
    have i1 : (0 : Int) ≤ (k : Int) := by omega
    have i2 : (k : Int) < (n : Int) := by omega
    have hne : wr.heap.size ≠ g := by have := hB.size; omega
    clear hc hdk c0 c1 c2 hgs hf hB hkd
    obtain ⟨r, hr⟩ : ∃ r, vchk d = r := ⟨_, rfl⟩
    have HR : Hid (vchk d = r) := hr
    clear hr
    by_cases hr0 : r = 0
    . subst hr0
      go_wp2_with (go_at_call 62; refine (check_any ⟨d.k, d.n, d.s⟩ _).mono ?_; rintro e w2 ⟨rfl, hb2⟩; rw [show vchk ⟨d.k, d.n, d.s⟩ = 0 from HR.out]; have HB2 : Hid (Below (wr.alloc (.cells #[.int .i64 d.k, .int .i64 d.n, .string d.s] 29)).heap.size (wr.alloc (.cells #[.int .i64 d.k, .int .i64 d.n, .string d.s] 29)) w2) := hb2; clear hb2)
      go_roundw
      case rel => exact ⟨k + 1, by omega, by go_num, fst_step HF.out (HV.out.trans HR.out), zAA (HB.out.alloc HB.out.size _) HB2.out (by simp; have := HB.out.size; omega)⟩
      case measure => simp [intOf]; omega
    . have hrb : (r == 0) = false := by simpa using hr0
      have hrd : (r != 0) = true := by simpa using hr0
      go_wp2_with (go_at_call 62; refine (check_any ⟨d.k, d.n, d.s⟩ _).mono ?_; rintro e w2 ⟨rfl, hb2⟩; rw [show vchk ⟨d.k, d.n, d.s⟩ = r from HR.out]; have HB2 : Hid (Below (wr.alloc (.cells #[.int .i64 d.k, .int .i64 d.n, .string d.s] 29)).heap.size (wr.alloc (.cells #[.int .i64 d.k, .int .i64 d.n, .string d.s] 29)) w2) := hb2; clear hb2)
      go_ret
      refine ⟨zAC ?_, zAA (HB.out.alloc HB.out.size _) HB2.out (by simp; have := HB.out.size; omega)⟩
      rw [fst_hit HF.out (by rw [HV.out, HR.out]; exact hr0) (by have := HNL.out; omega), HV.out, HR.out]
  . obtain rfl : k = n := by omega
    clear hf hB
    go_wp2
    go_ret
    refine ⟨zAC ?_, HB.out⟩
    exact HF.out.symm
def sgnI (x y : Int) : Int := if x < y then -1 else if y < x then 1 else 0
def ord (a b : Vl) : Int := if a.k = 2 then Lib.compareBytes a.s.data.toList b.s.data.toList else sgnI a.n b.n
def cmpE (a b : Vl) : Int := if vchk a ≠ 0 then vchk a else if vchk b ≠ 0 then vchk b else if a.k ≠ b.k then 13 else 0
def cmpV (a b : Vl) : Int := if cmpE a b ≠ 0 then 0 else ord a b
theorem zGT (a b : ByteArray) (w : World) :
  Calls Tryd.prog 77 #[.string a, .string b] w fun e w' => e = .returned (.int .i64 (Lib.compareBytes a.data.toList b.data.toList)) ∧ w' = w := by
 have c : ∀ w, Calls Tryd.prog 86 #[.string a, .string b] w fun e w' => e = .returned (.int .i64 (Lib.compareBytes a.data.toList b.data.toList)) ∧ w' = w := fun w => by
  go_enter Tryd.func86, Tryd.ntmps86
  go_wp2
  rw [run_callFunc_extern Tryd.func94 (by kernel_rfl) (by kernel_rfl) (by kernel_rfl) (e := Extern.BytealgCompare.compare) (by kernel_rfl), Lib.run_compareString]
  simp only [Result.andThen]
  rw [Oper.upon_value]
  go_wp2
  go_ret
  exact ⟨rfl, rfl⟩
 have C : Hid (∀ w, Calls Tryd.prog 86 #[.string a, .string b] w fun e w' => e = .returned (.int .i64 (Lib.compareBytes a.data.toList b.data.toList)) ∧ w' = w) := c
 clear c
 go_enter Tryd.func77, Tryd.ntmps77
 go_wp2_with (go_at_call 86; refine (C.out _).mono ?_; rintro e w ⟨rfl, rfl⟩)
 go_ret
 exact ⟨rfl, rfl⟩
theorem zGM (a b : Int) (w : World) :
  Calls Tryd.prog 78 #[.int .i64 a, .int .i64 b] w fun e w' => e = .returned (.int .i64 (sgnI a b)) ∧ w' = w := by
 go_enter Tryd.func78, Tryd.ntmps78
 go_wp2
 all_goals
  go_ret
  refine ⟨zAC ?_, rfl⟩
  unfold sgnI
  (repeat' split) <;> omega
theorem zHX (w : World) (o1 o2 : Obj) : Below w.heap.size w ((w.alloc o1).alloc o2) := ((Below.refl _ w).alloc (Nat.le_refl _) o1).alloc (by simp) o2
theorem zFM (w : World) (o1 o2 o3 : Obj) : Below w.heap.size w (((w.alloc o1).alloc o2).alloc o3) := (zHX w o1 o2).alloc (by simp; omega) o3
theorem zDT {a b c d : Int} (h : a = c) (h2 : b = d) : Ending.returned (.tuple #[.int .i64 a, .int .i64 b]) = .returned (.tuple #[.int .i64 c, .int .i64 d]) := by rw [h, h2]
theorem vals_two {w : World} {g : Nat} (a b : Vl) (hg : g < w.heap.size) (c0 : w.cell? ⟨g, 0, none⟩ = some (.int .i64 a.k)) (c1 : w.cell? ⟨g, 1, none⟩ = some (.int .i64 a.n)) (c2 : w.cell? ⟨g, 2, none⟩ = some (.string a.s)) (c3 : w.cell? ⟨g, 3, none⟩ = some (.int .i64 b.k)) (c4 : w.cell? ⟨g, 4, none⟩ = some (.int .i64 b.n)) (c5 : w.cell? ⟨g, 5, none⟩ = some (.string b.s)) :
   ValsAt w (.slice (some ⟨g, 0, none⟩) 2 2) [a, b] := by
 refine ⟨_, 2, rfl, by simp, by unfold maxLen; omega, fun _ => ⟨g, 0, rfl, fun j hj => ⟨hg, ?_⟩⟩⟩
 have hj' : j = 0 ∨ j = 1 := by simp at hj; omega
 rcases hj' with rfl | rfl
 . exact ⟨c0, c1, c2⟩
 . exact ⟨c3, c4, c5⟩
theorem zAS {X : World} {cs : Array Value} {t : TypeId} {g j : Nat} {v : Value} (hg : g = X.heap.size) (hv : cs[j]? = some v) : (X.alloc (.cells cs t)).cell? ⟨g, j, none⟩ = some v := by
  subst hg
  have h : (X.alloc (.cells cs t)).heap[X.heap.size]? = some (.cells cs t (0, 0)) := by first | exact heap_alloc_new X _ | exact _root_.Go.heap_alloc_new X _
  rw [cell_of_row _ _ _ _ t (0, 0) h]
  simpa using hv
theorem fst_two (a b : Vl) : fst (vat [a, b]) 2 = if vchk a ≠ 0 then vchk a else vchk b := by
  simp [fst, vat]
theorem compare_any (a b : Vl) (w : World) :
   Calls Tryd.prog 64 #[vV a, vV b] w fun e w' => e = .returned (.tuple #[.int .i64 (cmpV a b), .int .i64 (cmpE a b)]) ∧ Below w.heap.size w w' := by
 obtain ⟨k, n, s⟩ := a
 obtain ⟨k', n', s'⟩ := b
 obtain ⟨r, hr⟩ : ∃ r, fst (vat [⟨k, n, s⟩, ⟨k', n', s'⟩]) 2 = r := ⟨_, rfl⟩
 have HR : Hid (fst (vat [⟨k, n, s⟩, ⟨k', n', s'⟩]) 2 = r) := hr
 have HV : Hid (cmpV ⟨k, n, s⟩ ⟨k', n', s'⟩ = if cmpE ⟨k, n, s⟩ ⟨k', n', s'⟩ ≠ 0 then 0 else ord ⟨k, n, s⟩ ⟨k', n', s'⟩) := rfl
 have HE : Hid (cmpE ⟨k, n, s⟩ ⟨k', n', s'⟩ = if r ≠ 0 then r else if k ≠ k' then 13 else 0) := by
   unfold cmpE
   rw [fst_two] at hr
   by_cases h : vchk ⟨k, n, s⟩ = 0
   . rw [if_neg (by simp [h])] at hr
     rw [if_neg (by simp [h]), hr]
     exact rfl
   . rw [if_pos h] at hr
     rw [if_pos h, ← hr]
     exact (if_pos h).symm
 clear hr
 unfold vV
 go_enter Tryd.func64, Tryd.ntmps64
 go_wp2_with fail
 refine (zCJ _ [⟨k, n, s⟩, ⟨k', n', s'⟩] _ (vals_two ⟨k, n, s⟩ ⟨k', n', s'⟩ (by simp) (zAS (by simp) rfl) (zAS (by simp) rfl) (zAS (by simp) rfl) (zAS (by simp) rfl) (zAS (by simp) rfl) (zAS (by simp) rfl))).mono ?_
 rintro e w1 ⟨he1, hb1⟩
 have he1' : e = .returned (.int .i64 r) := he1.trans (zAC HR.out)
 subst he1'
 have HB1 : Hid (Below w.heap.size w w1) := zAA (zFM w (.cells #[.int .i64 k, .int .i64 n, .string s] 29) (.cells #[.int .i64 k', .int .i64 n', .string s'] 29) _) hb1 (by simp; omega)
 have c0 : w1.cell? ⟨w.heap.size + 1 + 1, 0, none⟩ = some (.int .i64 k) := (hb1.cell (by simp)).trans (zAS (by simp) rfl)
 have c1 : w1.cell? ⟨w.heap.size + 1 + 1, 1, none⟩ = some (.int .i64 n) := (hb1.cell (by simp)).trans (zAS (by simp) rfl)
 have c2 : w1.cell? ⟨w.heap.size + 1 + 1, 2, none⟩ = some (.string s) := (hb1.cell (by simp)).trans (zAS (by simp) rfl)
 have c3 : w1.cell? ⟨w.heap.size + 1 + 1, 3, none⟩ = some (.int .i64 k') := (hb1.cell (by simp)).trans (zAS (by simp) rfl)
 have c4 : w1.cell? ⟨w.heap.size + 1 + 1, 4, none⟩ = some (.int .i64 n') := (hb1.cell (by simp)).trans (zAS (by simp) rfl)
 have c5 : w1.cell? ⟨w.heap.size + 1 + 1, 5, none⟩ = some (.string s') := (hb1.cell (by simp)).trans (zAS (by simp) rfl)
 clear hb1 he1
 by_cases hr0 : r = 0
 . subst hr0
   by_cases hkk : k = k'
   . subst hkk
     have he : cmpE ⟨k, n, s⟩ ⟨k, n', s'⟩ = 0 := by rw [HE.out]; simp
     have HE0 : Hid (cmpE ⟨k, n, s⟩ ⟨k, n', s'⟩ = 0) := he
     clear he
     by_cases hk2 : k = 2
     . subst hk2
       go_wp2_with (go_at_call 77; refine (zGT _ _ _).mono ?_; rintro e w2 ⟨rfl, rfl⟩)
       go_ret2
       exact ⟨zDT (by rw [HV.out, HE0.out]; simp [ord]) HE0.out.symm, HB1.out⟩
     . have hkb : (k == 2) = false := by simpa using hk2
       go_wp2_with (go_at_call 78; refine (zGM _ _ _).mono ?_; rintro e w2 ⟨rfl, rfl⟩)
       go_ret2
       exact ⟨zDT (by rw [HV.out, HE0.out]; simp [ord, hk2]) HE0.out.symm, HB1.out⟩
   . have he : cmpE ⟨k, n, s⟩ ⟨k', n', s'⟩ = 13 := by rw [HE.out]; simp [hkk]
     have HE0 : Hid (cmpE ⟨k, n, s⟩ ⟨k', n', s'⟩ = 13) := he
     clear he
     have hkb : (k == k') = false := by simpa using hkk
     have hkc : (k != k') = true := by simpa using hkk
     go_wp2
     go_ret2
     exact ⟨zDT (by rw [HV.out, HE0.out]; simp) HE0.out.symm, HB1.out⟩
 . have he : cmpE ⟨k, n, s⟩ ⟨k', n', s'⟩ = r := by rw [HE.out]; simp [hr0]
   have HE0 : Hid (cmpE ⟨k, n, s⟩ ⟨k', n', s'⟩ = r) := he
   clear he
   have hkb : (r == 0) = false := by simpa using hr0
   have hkc : (r != 0) = true := by simpa using hr0
   go_wp2
   go_ret2
   exact ⟨zDT (by rw [HV.out, HE0.out]; simp [hr0]) HE0.out.symm, HB1.out⟩
def anyS (name : ByteArray) (l : List Fd) : Bool := l.any fun f => eqS f.s name
theorem zFI (name : ByteArray) : ∀ (l : List Fd) (k : Nat), 0 ≤ fnd name l k ↔ anyS name l = true
 | [], k => by simp [fnd, anyS]
 | f :: l, k => by
  unfold fnd
  have ih := zFI name l (k + 1)
  unfold anyS at ih ⊢
  by_cases h : eqS f.s name = true
  . simp [h]
  . simp only [h, if_false, List.any_cons, Bool.false_or, Bool.not_eq_true] at *
    simpa [h] using ih
def fck (f : Fd) (ahead : List Fd) : Int :=
  if nchk f.s ≠ 0 then nchk f.s else if f.k ≠ 1 ∧ f.k ≠ 2 then 3 else if anyS f.s ahead = true then 7 else 0
theorem fchk_at {fs : List Fd} {k : Nat} (h : k < fs.length) : fchk fs k = fck fs[k] (fs.take k) := by
  unfold fchk fck
  rw [List.getElem?_eq_getElem h]
  simp only [zFI]
theorem fnd_hit {name : ByteArray} {l : List Fd} {k : Nat} (h : k < l.length) (he : eqS l[k].s name = true) : fnd name (l.drop k) k = k := by
  rw [List.drop_eq_getElem_cons h]
  unfold fnd
  rw [if_pos he]
theorem fnd_miss {name : ByteArray} {l : List Fd} {k : Nat} (h : k < l.length) (he : eqS l[k].s name = false) : fnd name (l.drop k) k = fnd name (l.drop (k + 1)) (k + 1) := by
  rw [List.drop_eq_getElem_cons h]
  conv => lhs; unfold fnd
  rw [if_neg (by simp [he])]
theorem fnd_end {name : ByteArray} {l : List Fd} : fnd name (l.drop l.length) l.length = -1 := by
  rw [List.drop_length]; rfl
theorem fnd_le (name : ByteArray) : ∀ (l : List Fd) (k : Nat), fnd name l k < 0 ∨ ((k : Int) ≤ fnd name l k ∧ fnd name l k < k + l.length)
 | [], k => by simp [fnd]
 | f :: l, k => by
  unfold fnd
  have ih := fnd_le name l (k + 1)
  split
  . right; simp; omega
  . rcases ih with h | h
    . left; exact h
    . right; simp; omega
theorem zBH (v : Value) (l : List Fd) (name : ByteArray) (w : World) (hv : FieldsAt w v l) :
  Calls Tryd.prog 69 #[v, .string name] w fun e w' => e = .returned (.int .i64 (fnd name l 0)) ∧ Below w.heap.size w w' := by
 obtain ⟨p, cap, rfl, hcap, hmax, hp⟩ := hv
 obtain ⟨n, hnl⟩ : ∃ n, l.length = n := ⟨_, rfl⟩
 have HP : Hid (0 < l.length → ∃ g off, p = some ⟨g, off, none⟩ ∧ ∀ j (hj : j < l.length), g < w.heap.size ∧ w.cell? ⟨g, off + j * 2, none⟩ = some (.string l[j].s) ∧ w.cell? ⟨g, off + j * 2 + 1, none⟩ = some (.int .i64 l[j].k)) := hp
 have HNL : Hid (l.length = n) := hnl
 have hmx : (n : Int) ≤ 9223372036854775807 := by unfold maxLen at hmax; omega
 rw [hnl]
 clear hp hnl hcap hmax
 obtain ⟨R, hR⟩ : ∃ R, fnd name l 0 = R := ⟨_, rfl⟩
 have HR : Hid (fnd name l 0 = R) := hR
 rw [hR]
 clear hR
 go_enter Tryd.func69, Tryd.ntmps69
 go_wp2
 go_loopw [9] (fun i wr => ∃ k : Nat, k ≤ n ∧ i = .int .i64 (k : Nat) ∧ fnd name (l.drop k) k = R ∧ Below w.heap.size w wr) (fun i _ => n + 1 - (intOf i).toNat)
 case atStart => exact ⟨0, by omega, rfl, by rw [List.drop_zero]; exact HR.out, Below.refl _ _⟩
 case round =>
  obtain ⟨k, hk, rfl, hf, hB⟩ := hrel
  have HF : Hid (fnd name (l.drop k) k = R) := hf
  have HB : Hid (Below w.heap.size w wr) := hB
  by_cases hlt : k < n
  . have hkd : k < l.length := by have := HNL.out; omega
    obtain ⟨g, off, hg, hc⟩ := HP.out (by omega)
    obtain ⟨hgs, c0, c1⟩ := hc k hkd
    subst hg
    have HHit : Hid (eqS l[k].s name = true → R = k) := fun h => HF.out.symm.trans (fnd_hit hkd h)
    have HMiss : Hid (eqS l[k].s name = false → fnd name (l.drop (k + 1)) (k + 1) = R) := fun h => (fnd_miss hkd h).symm.trans HF.out
    obtain ⟨d, hdk⟩ : ∃ d, l[k] = d := ⟨_, rfl⟩
    rw [hdk] at c0 c1 HHit HMiss
    have b0 : wr.cell? ⟨g, off + k * 2, none⟩ = some (.string d.s) := (hB.cell (p := ⟨g, off + k * 2, none⟩) hgs).trans c0
    have b1 : wr.cell? ⟨g, off + k * 2 + 1, none⟩ = some (.int .i64 d.k) := (hB.cell (p := ⟨g, off + k * 2 + 1, none⟩) hgs).trans c1
    have i1 : (0 : Int) ≤ (k : Int) := by omega
    have i2 : (k : Int) < (n : Int) := by omega
    have hne : wr.heap.size ≠ g := by have := hB.size; omega
    clear hc hdk c0 c1 hgs hf hB hkd
    by_cases he : d.s.toList = name.toList
    . go_wp2
      go_ret
      exact ⟨zAC (HHit.out (by simp [eqS, he])).symm, HB.out.alloc HB.out.size _⟩
    . have heb : (d.s.toList == name.toList) = false := by simpa using he
      go_wp2
      go_roundw
      case rel => exact ⟨k + 1, by omega, by go_num, HMiss.out (by simp [eqS, he]), HB.out.alloc HB.out.size _⟩
      case measure => simp [intOf]; omega
  . obtain rfl : k = n := by omega
    have HX : Hid (R = -1) := by rw [← HF.out, ← HNL.out]; exact fnd_end
    clear hf hB
    go_wp2
    go_ret
    exact ⟨zAC HX.out.symm, HB.out⟩
theorem zC7 (f : Fd) (v : Value) (l : List Fd) (w : World) (hv : FieldsAt w v l) :
   Calls Tryd.prog 45 #[.agg #[.string f.s, .int .i64 f.k], v] w fun e w' => e = .returned (.int .i64 (fck f l)) ∧ Below w.heap.size w w' := by
 obtain ⟨s, k⟩ := f
 obtain ⟨n, hn⟩ : ∃ n, nchk s = n := ⟨_, rfl⟩
 obtain ⟨a, ha⟩ : ∃ a, anyS s l = a := ⟨_, rfl⟩
 obtain ⟨R, hR⟩ : ∃ R, fnd s l 0 = R := ⟨_, rfl⟩
 have HA : Hid (0 ≤ R ↔ a = true) := by rw [← hR, ← ha]; exact zFI s l 0
 have HK : Hid (fck ⟨s, k⟩ l = if n ≠ 0 then n else if k ≠ 1 ∧ k ≠ 2 then 3 else if a = true then 7 else 0) := by subst hn ha; exact rfl
 have HV : Hid (FieldsAt w v l) := hv
 have H1 : Hid (∀ W, Calls Tryd.prog 44 #[.string s] W fun e w' => e = .returned (.int .i64 n) ∧ w' = W) := fun W => by rw [← hn]; exact zCM _ _
 have H2 : Hid (∀ W, Below w.heap.size w W → Calls Tryd.prog 69 #[v, .string s] W fun e w' => e = .returned (.int .i64 R) ∧ Below W.heap.size W w') := fun W hb => by rw [← hR]; exact zBH _ _ _ _ (HV.out.below hb)
 clear hn ha hR hv
 by_cases hn0 : n = 0
 . subst hn0
   by_cases hk : k ≠ 1 ∧ k ≠ 2
   . have he : fck ⟨s, k⟩ l = 3 := by rw [HK.out]; simp [hk.1, hk.2]
     have HE : Hid (fck ⟨s, k⟩ l = 3) := he
     clear he
     obtain ⟨k1, k2⟩ := hk
     have kb1 : (k == 1) = false := by simpa using k1
     have kb2 : (k == 2) = false := by simpa using k2
     go_enter Tryd.func45, Tryd.ntmps45
     go_wp2_with (first | (go_at_call 44; refine (H1.out _).mono ?_; rintro e w2 ⟨rfl, rfl⟩) | (go_at_call 68; go_in))
     go_ret
     exact ⟨zAC HE.out.symm, (Below.refl _ w).alloc (Nat.le_refl _) _⟩
   . have hk' : k = 1 ∨ k = 2 := by omega
     have he : fck ⟨s, k⟩ l = if 0 ≤ R then 7 else 0 := by
      rw [HK.out, if_neg (by simp), if_neg hk]
      by_cases c : 0 ≤ R
      . rw [if_pos c, if_pos (HA.out.1 c)]
      . rw [if_neg c, if_neg (fun h => c (HA.out.2 h))]
     have HE : Hid (fck ⟨s, k⟩ l = if 0 ≤ R then 7 else 0) := he
     clear he hk
     rcases hk' with rfl | rfl
     all_goals
      go_enter Tryd.func45, Tryd.ntmps45
      go_wp2_with (first | (go_at_call 44; refine (H1.out _).mono ?_; rintro e w2 ⟨rfl, rfl⟩) | (go_at_call 68; go_in) | (go_at_call 69; refine (H2.out _ ((Below.refl _ w).alloc (Nat.le_refl _) _)).mono ?_; rintro e w2 ⟨rfl, hb2⟩; have HB2 : Hid (Below w.heap.size w w2) := zAA ((Below.refl _ w).alloc (Nat.le_refl _) _) hb2 (by simp); clear hb2))
      all_goals
        go_ret
        exact ⟨zAC (by rw [HE.out]; first | rw [if_pos (by assumption)] | rw [if_neg (by omega)]), HB2.out⟩
 . have he : fck ⟨s, k⟩ l = n := by rw [HK.out]; simp [hn0]
   have HE : Hid (fck ⟨s, k⟩ l = n) := he
   clear he
   have kb1 : (n == 0) = false := by simpa using hn0
   have kb2 : (n != 0) = true := by simpa using hn0
   go_enter Tryd.func45, Tryd.ntmps45
   go_wp2_with (first | (go_at_call 44; refine (H1.out _).mono ?_; rintro e w2 ⟨rfl, rfl⟩))
   go_ret
   exact ⟨zAC HE.out.symm, (Below.refl _ w).alloc (Nat.le_refl _) _⟩
theorem FieldsAt.take {w : World} {p : Option Addr} {n cap k : Nat} {l : List Fd} (h : FieldsAt w (.slice p n cap) l) (hk : k ≤ n) : FieldsAt w (.slice p k cap) (l.take k) := by
  obtain ⟨p', cap', h1, hc, hm, h2⟩ := h
  simp at h1
  obtain ⟨rfl, rfl, rfl⟩ := h1
  have hl : (l.take k).length = k := by rw [List.length_take]; omega
  refine ⟨p, cap, by rw [hl], by rw [hl]; omega, hm, fun h0 => ?_⟩
  obtain ⟨g, off, h3, h4⟩ := h2 (by omega)
  refine ⟨g, off, h3, fun j hj => ?_⟩
  obtain ⟨a, b0, b1⟩ := h4 j (by omega)
  rw [List.getElem_take]
  exact ⟨a, b0, b1⟩
theorem tchk_mid {t : Ty} (h1 : nchk t.s = 0) (h2 : ¬ 4 < t.fs.length) : tchk t = fst (fchk t.fs) t.fs.length := by
  unfold tchk
  rw [if_neg (by simp [h1]), if_neg h2]
theorem checkType_any (t : Ty) (v : Value) (w : World) (hv : FieldsAt w v t.fs) :
   Calls Tryd.prog 29 #[.agg #[.string t.s, v]] w fun e w' => e = .returned (.int .i64 (tchk t)) ∧ Below w.heap.size w w' := by
 obtain ⟨s, l⟩ := t
 obtain ⟨T, hT⟩ : ∃ T, tchk ⟨s, l⟩ = T := ⟨_, rfl⟩
 have HT : Hid (tchk ⟨s, l⟩ = T) := hT
 rw [hT]
 clear hT
 simp only at hv
 have HV : Hid (FieldsAt w v l) := hv
 obtain ⟨p, cap, rfl, hcap, hmax, hp⟩ := hv
 obtain ⟨n, hnl⟩ : ∃ n, l.length = n := ⟨_, rfl⟩
 have HNL : Hid (l.length = n) := hnl
 have HP : Hid (0 < l.length → ∃ g off, p = some ⟨g, off, none⟩ ∧ ∀ j (hj : j < l.length), g < w.heap.size ∧ w.cell? ⟨g, off + j * 2, none⟩ = some (.string l[j].s) ∧ w.cell? ⟨g, off + j * 2 + 1, none⟩ = some (.int .i64 l[j].k)) := hp
 obtain ⟨c, hc⟩ : ∃ c, nchk s = c := ⟨_, rfl⟩
 have HC : Hid (nchk s = c) := hc
 have H1 : Hid (∀ W, Calls Tryd.prog 44 #[.string s] W fun e w' => e = .returned (.int .i64 c) ∧ w' = W) := fun W => by rw [← hc]; exact zCM _ _
 rw [hnl] at hcap HV ⊢
 clear hp hnl hc hmax
 by_cases hc0 : c = 0
 . subst hc0
   by_cases h4 : 4 < n
   . have HX : Hid (T = 1) := by rw [← HT.out]; unfold tchk; simp only; rw [if_neg (by simp [HC.out]), if_pos (by rw [HNL.out]; exact h4)]; exact rfl
     have h4' : decide ((4 : Int) < (n : Int)) = true := by simp; omega
     go_enter Tryd.func29, Tryd.ntmps29
     go_wp2_with (go_at_call 44; refine (H1.out _).mono ?_; rintro e w2 ⟨rfl, rfl⟩)
     go_ret
     exact ⟨zAC HX.out.symm, (Below.refl _ w).alloc (Nat.le_refl _) _⟩
   . have h4' : decide ((4 : Int) < (n : Int)) = false := by simp; omega
     have HX : Hid (T = fst (fchk l) n) := by rw [← HT.out, tchk_mid (by exact HC.out) (by simp only; rw [HNL.out]; exact h4)]; simp only; rw [HNL.out]; exact rfl
     go_enter Tryd.func29, Tryd.ntmps29
     go_wp2_with (go_at_call 44; refine (H1.out _).mono ?_; rintro e w2 ⟨rfl, rfl⟩)
     have HB0 : Hid (Below w.heap.size w (w.alloc (.cells #[.string s, .slice p n cap] 72))) := (Below.refl _ w).alloc (Nat.le_refl _) _
     go_loopw [20] (fun i wr => ∃ k : Nat, k ≤ n ∧ i = .int .i64 (k : Nat) ∧ fst (fchk l) k = 0 ∧ Below w.heap.size w wr ∧ wr.cell? ⟨w.heap.size, 1, none⟩ = some (.slice p n cap)) (fun i _ => n + 1 - (intOf i).toNat)
     case atStart => exact ⟨0, by omega, rfl, rfl, HB0.out, by simp⟩
     case round =>
      obtain ⟨k, hk, rfl, hf, hB, bt⟩ := hrel
      have HF : Hid (fst (fchk l) k = 0) := hf
      have HB : Hid (Below w.heap.size w wr) := hB
      by_cases hlt : k < n
      . have hkd : k < l.length := by have := HNL.out; omega
        obtain ⟨g, off, hg, hcl⟩ := HP.out (by omega)
        obtain ⟨hgs, c0, c1⟩ := hcl k hkd
        subst hg
        have HKF : Hid (fchk l k = fck l[k] (l.take k)) := fchk_at hkd
        obtain ⟨d, hdk⟩ : ∃ d, l[k] = d := ⟨_, rfl⟩
        rw [hdk] at c0 c1 HKF
        have b0 : wr.cell? ⟨g, off + k * 2, none⟩ = some (.string d.s) := (hB.cell (p := ⟨g, off + k * 2, none⟩) hgs).trans c0
        have b1 : wr.cell? ⟨g, off + k * 2 + 1, none⟩ = some (.int .i64 d.k) := (hB.cell (p := ⟨g, off + k * 2 + 1, none⟩) hgs).trans c1
        have i1 : (0 : Int) ≤ (k : Int) := by omega
        have i2 : (k : Int) < (n : Int) := by omega
        have i3 : (k : Int) ≤ (cap : Int) := by omega
        have i4 : k ≤ cap := by omega
        have hwr : w.heap.size < wr.heap.size := World.block_lt_of_cell? wr ⟨w.heap.size, 1, none⟩ bt
        obtain ⟨r, hr⟩ : ∃ r, fck d (l.take k) = r := ⟨_, rfl⟩
        rw [hr] at HKF
        have H2 : Hid (∀ W, Below w.heap.size w W → Calls Tryd.prog 45 #[.agg #[.string d.s, .int .i64 d.k], .slice (some ⟨g, off, none⟩) k cap] W fun e w' => e = .returned (.int .i64 r) ∧ Below W.heap.size W w') := fun W hb => by rw [← hr]; exact zC7 d _ _ _ ((HV.out.below hb).take (by omega))
        have HWR : Hid (w.heap.size < wr.heap.size) := hwr
        have hne : wr.heap.size ≠ w.heap.size := by omega
        have hne2 : w.heap.size ≠ wr.heap.size := by omega
        clear hcl hdk c0 c1 hgs hf hB hkd hr hwr
        go_wp2_with fail
        have d0 : (wr.alloc (.cells #[.string d.s, .int .i64 d.k] 69)).cell? ⟨wr.heap.size, 0, none⟩ = some (.string d.s) := zAS rfl rfl
        have d1 : (wr.alloc (.cells #[.string d.s, .int .i64 d.k] 69)).cell? ⟨wr.heap.size, 1, none⟩ = some (.int .i64 d.k) := zAS rfl rfl
        have dt : (wr.alloc (.cells #[.string d.s, .int .i64 d.k] 69)).cell? ⟨w.heap.size, 1, none⟩ = some (.slice (some ⟨g, off, none⟩) n cap) := (((Below.refl _ wr).alloc (Nat.le_refl _) _).cell (p := ⟨w.heap.size, 1, none⟩) HWR.out).trans bt
        have HW1 : Hid (Below w.heap.size w (wr.alloc (.cells #[.string d.s, .int .i64 d.k] 69)) ∧ w.heap.size < (wr.alloc (.cells #[.string d.s, .int .i64 d.k] 69)).heap.size ∧ wr.heap.size < (wr.alloc (.cells #[.string d.s, .int .i64 d.k] 69)).heap.size) := ⟨HB.out.alloc HB.out.size _, by have := HWR.out; simp; omega, by simp⟩
        generalize wr.alloc (.cells #[.string d.s, .int .i64 d.k] 69) = W1 at d0 d1 dt HW1 ⊢
        clear b0 b1 bt
        go_region_held3 (fun w' => w'.cell? ⟨wr.heap.size, 0, none⟩ = some (.string d.s) ∧ w'.cell? ⟨wr.heap.size, 1, none⟩ = some (.int .i64 d.k) ∧ w'.cell? ⟨w.heap.size, 1, none⟩ = some (.slice (some ⟨g, off, none⟩) n cap))
          (first | exact ⟨q0, q1, q2⟩ | (go_keep; done))
          ((go_at_call 45; go_loud (refine (H2.out _ HW1.out.1.drew).mono ?_); rintro e w2 ⟨rfl, hb2⟩; have HB2 : Hid (Below W1.heap.size W1 w2) := zAA ((Below.refl _ W1).drew) hb2 (Nat.le_refl _); have q0 : w2.cell? ⟨wr.heap.size, 0, none⟩ = some (.string d.s) := (HB2.out.cell (p := ⟨wr.heap.size, 0, none⟩) HW1.out.2.2).trans d0; have q1 : w2.cell? ⟨wr.heap.size, 1, none⟩ = some (.int .i64 d.k) := (HB2.out.cell (p := ⟨wr.heap.size, 1, none⟩) HW1.out.2.2).trans d1; have q2 : w2.cell? ⟨w.heap.size, 1, none⟩ = some (.slice (some ⟨g, off, none⟩) n cap) := (HB2.out.cell (p := ⟨w.heap.size, 1, none⟩) HW1.out.2.1).trans dt; clear hb2))
        have HQ : Hid (w2.cell? ⟨w.heap.size, 1, none⟩ = some (.slice (some ⟨g, off, none⟩) n cap)) := q2
        clear d0 d1 dt q0 q1 q2
        by_cases hr0 : r = 0
        . subst hr0
          go_wp2
          go_roundw
          case rel => exact ⟨k + 1, by omega, by go_num, fst_step HF.out HKF.out, zAA HW1.out.1 HB2.out (by have := HW1.out; omega), HQ.out⟩
          case measure => simp [intOf]; omega
        . have hrb : (r == 0) = false := by simpa using hr0
          have hrd : (r != 0) = true := by simpa using hr0
          go_wp2
          go_ret
          exact ⟨zAC (by rw [HX.out, fst_hit HF.out (by rw [HKF.out]; exact hr0) hlt, HKF.out]), zAA HW1.out.1 HB2.out (by have := HW1.out; omega)⟩
      . obtain rfl : k = n := by omega
        clear hf hB bt
        go_wp2
        go_ret
        exact ⟨zAC (by rw [HX.out, HF.out]), HB.out⟩
 . have HX : Hid (T = c) := by rw [← HT.out]; unfold tchk; simp only; rw [if_pos (by rw [HC.out]; exact hc0), HC.out]; exact rfl
   have hrb : (c == 0) = false := by simpa using hc0
   have hrd : (c != 0) = true := by simpa using hc0
   go_enter Tryd.func29, Tryd.ntmps29
   go_wp2_with (go_at_call 44; refine (H1.out _).mono ?_; rintro e w2 ⟨rfl, rfl⟩)
   go_ret
   exact ⟨zAC HX.out.symm, (Below.refl _ w).alloc (Nat.le_refl _) _⟩
theorem FieldsAt.shape {w : World} {v : Value} {l : List Fd} (h : FieldsAt w v l) : ∃ p cap, v = .slice p l.length cap ∧ l.length ≤ cap ∧ (l.length : Int) ≤ 9223372036854775807 := by
  obtain ⟨p, cap, h1, h2, h3, _⟩ := h
  exact ⟨p, cap, h1, h2, by unfold maxLen at h3; omega⟩
theorem ValsAt.shape {w : World} {v : Value} {l : List Vl} (h : ValsAt w v l) : ∃ p cap, v = .slice p l.length cap ∧ l.length ≤ cap ∧ (l.length : Int) ≤ 9223372036854775807 := by
  obtain ⟨p, cap, h1, h2, h3, _⟩ := h
  exact ⟨p, cap, h1, h2, by unfold maxLen at h3; omega⟩
def fld (t : Ty) (name : ByteArray) : Int × Int × Int :=
  if tchk t ≠ 0 then (0, 0, tchk t) else if fnd name t.fs 0 < 0 then (0, 0, 6)
  else (fnd name t.fs 0, (t.fs.getD (fnd name t.fs 0).toNat ⟨ByteArray.empty, 0⟩).k, 0)
theorem field_any (t : Ty) (v : Value) (name : ByteArray) (w : World) (hv : FieldsAt w v t.fs) :
   Calls Tryd.prog 83 #[.agg #[.string t.s, v], .string name] w fun e w' => e = .returned (.tuple #[.int .i64 (fld t name).1, .int .i64 (fld t name).2.1, .int .i64 (fld t name).2.2]) ∧ Below w.heap.size w w' := by
 obtain ⟨s, fs⟩ := t
 obtain ⟨T, hT⟩ : ∃ T, tchk ⟨s, fs⟩ = T := ⟨_, rfl⟩
 obtain ⟨P, hP⟩ : ∃ P, fnd name fs 0 = P := ⟨_, rfl⟩
 obtain ⟨x, y, z, hR⟩ : ∃ x y z, fld ⟨s, fs⟩ name = (x, y, z) := ⟨_, _, _, rfl⟩
 simp only at hv
 have HV : Hid (FieldsAt w v fs) := hv
 have H1 : Hid (∀ W, Below w.heap.size w W → Calls Tryd.prog 29 #[.agg #[.string s, v]] W fun e w' => e = .returned (.int .i64 T) ∧ Below W.heap.size W w') := fun W hb => by rw [← hT]; exact checkType_any ⟨s, fs⟩ _ _ (HV.out.below hb)
 have H2 : Hid (∀ W, Below w.heap.size w W → Calls Tryd.prog 69 #[v, .string name] W fun e w' => e = .returned (.int .i64 P) ∧ Below W.heap.size W w') := fun W hb => by rw [← hP]; exact zBH _ _ _ _ (HV.out.below hb)
 have HR : Hid ((x, y, z) = if T ≠ 0 then (0, 0, T) else if P < 0 then (0, 0, 6) else (P, (fs.getD P.toNat ⟨ByteArray.empty, 0⟩).k, 0)) := by rw [← hR]; unfold fld; simp only; rw [hT, hP]; exact rfl
 have HPL : Hid (P < 0 ∨ (0 ≤ P ∧ P < fs.length)) := by have := fnd_le name fs 0; rw [hP] at this; simp at this; exact this
 rw [hR]
 obtain ⟨n, hn⟩ : ∃ n, fs.length = n := ⟨_, rfl⟩
 have HN : Hid (fs.length = n) := hn
 obtain ⟨p, cap, hsh, _, _, hfc⟩ := hv
 rw [hn] at hsh
 subst hsh
 have HFC : Hid (0 < fs.length → ∃ g off, p = some ⟨g, off, none⟩ ∧ ∀ j (hj : j < fs.length), g < w.heap.size ∧ w.cell? ⟨g, off + j * 2, none⟩ = some (.string fs[j].s) ∧ w.cell? ⟨g, off + j * 2 + 1, none⟩ = some (.int .i64 fs[j].k)) := hfc
 clear hT hP hR hfc hn
 go_enter Tryd.func83, Tryd.ntmps83
 go_wp2_with fail
 refine (H1.out _ ((Below.refl _ w).alloc (Nat.le_refl _) _)).mono ?_
 rintro e w1 ⟨rfl, hb1⟩
 have HB1 : Hid (Below w.heap.size w w1) := zAA ((Below.refl _ w).alloc (Nat.le_refl _) (.cells #[.string s, .slice p n cap] 72)) hb1 (by simp)
 have c1 : w1.cell? ⟨w.heap.size, 1, none⟩ = some (.slice p n cap) := (hb1.cell (by simp)).trans (zAS rfl rfl)
 clear hb1
 by_cases hT0 : T = 0
 . subst hT0
   go_wp2_with fail
   refine (H2.out _ HB1.out).mono ?_
   rintro e w2 ⟨rfl, hb2⟩
   have HB2 : Hid (Below w.heap.size w w2) := zAA HB1.out hb2 HB1.out.size
   have d1 : w2.cell? ⟨w.heap.size, 1, none⟩ = some (.slice p n cap) := (hb2.cell (World.block_lt_of_cell? _ _ c1)).trans c1
   clear hb2 c1
   by_cases hP0 : P < 0
   . have hr := HR.out
     simp [hP0] at hr
     obtain ⟨rfl, rfl, rfl⟩ := hr
     go_wp2
     go_ret3
     exact ⟨rfl, HB2.out⟩
   . have hpl : 0 ≤ P ∧ P < fs.length := by rcases HPL.out with h | h; exact absurd h hP0; exact h
     obtain ⟨j, hj⟩ : ∃ j : Nat, P = (j : Int) := ⟨P.toNat, by omega⟩
     subst hj
     have hjl : j < fs.length := by omega
     have hr := HR.out
     simp [hP0, List.getElem?_eq_getElem hjl] at hr
     obtain ⟨rfl, hy, rfl⟩ := hr
     obtain ⟨g, off, hg, hcl⟩ := HFC.out (by omega)
     obtain ⟨hgs, c0j, c1j⟩ := hcl j hjl
     subst hg
     rw [← hy] at c1j
     have b1 : w2.cell? ⟨g, off + j * 2 + 1, none⟩ = some (.int .i64 y) := (HB2.out.cell (p := ⟨g, off + j * 2 + 1, none⟩) hgs).trans c1j
     have j1 : (0 : Int) ≤ (j : Int) := by omega
     have j2 : (j : Int) < (n : Int) := by have := HN.out; omega
     have hp0 : decide ((j : Int) < 0) = false := by simp
     clear hcl c0j c1j hgs hy hpl hjl hP0 HR HPL
     go_wp2_with fail
     go_quiet (fail)
     go_wp2
     go_ret3
     exact ⟨rfl, zAA HB2.out (Go.Joins.below_draws _ _ _) (Nat.le_refl _)⟩
 . have hb1 : (T == 0) = false := by simpa using hT0
   have hb2 : (T != 0) = true := by simpa using hT0
   have hr := HR.out
   simp [hT0] at hr
   obtain ⟨rfl, rfl, rfl⟩ := hr
   clear c1
   go_wp2
   go_ret3
   exact ⟨rfl, HB1.out⟩
end Go.Proofs.YtnlmknbhppdliaaDoor.V4
namespace Go.Proofs.YtnlmknbhppdliaaDoor.Chk
open Go.ChangeShapes Go.WideShapes Go.ChangeAt Go.RowKit Go.Maps
set_option linter.unusedVariables false
set_option linter.unusedSimpArgs false
set_option maxRecDepth 20000
theorem zB0 {α : Type} {enc : α → List Dat} {e z : Nat} {w : World} {p : Option Addr} {n cap : Nat} {cs : List α} (h : Rd w (.row e z (cs.map enc)) (.slice p n cap)) : n = cs.length ∧ cs.length ≤ cap ∧ cap ≤ maxLen := by
 generalize hd : Dat.row e z (cs.map enc) = d at h
 generalize hv : Value.slice p n cap = v at h
 cases h with
 | lit v => cases hd
 | nil e' z' p' cap' h1 =>
  simp only [Dat.row.injEq] at hd
  have h0 : cs.length = 0 := by have := congrArg List.length hd.2.2; simpa using this
  simp only [Value.slice.injEq] at hv
  obtain ⟨_, rfl, rfl⟩ := hv
  exact ⟨h0.symm, by omega, h1⟩
 | row e' z' l g off cap' xs h1 h2 h3 h4 h5 h6 =>
  simp only [Dat.row.injEq] at hd
  obtain ⟨rfl, rfl, rfl⟩ := hd
  simp only [Value.slice.injEq] at hv
  obtain ⟨_, rfl, rfl⟩ := hv
  rw [List.length_map] at h2 ⊢
  exact ⟨rfl, h2, h3⟩
def vF (f : Fd) : V4.Fd := ⟨f.n, f.k⟩
theorem zD9 {w : World} {v : Value} {fs : List Fd} (h : Rd w (.row 69 2 (fs.map encF)) v) : V4.FieldsAt w v (fs.map vF) := by
  obtain ⟨p, cap, rfl, _, hat⟩ := zAG lenF h
  obtain ⟨_, h1, h2⟩ := zB0 h
  have hl : (fs.map vF).length = fs.length := by simp
  refine ⟨p, cap, by rw [hl], by rw [hl]; exact h1, h2, fun h0 => ?_⟩
  obtain ⟨g, off, rfl, hr⟩ := hat (by rw [hl] at h0; exact h0)
  refine ⟨g, off, rfl, fun j hj => ?_⟩
  have hj' : j < fs.length := by rw [hl] at hj; exact hj
  obtain ⟨us, r1, r2⟩ := hr w (Below.refl _ _) j hj'
  rw [rdF r2] at r1
  have c0 : w.cell? ⟨g, off + j * 2, none⟩ = some (.string fs[j].n) := by simpa using r1 0 _ rfl
  have c1 : w.cell? ⟨g, off + j * 2 + 1, none⟩ = some (.int .i64 fs[j].k) := r1 1 _ rfl
  refine ⟨World.block_lt_of_cell? _ _ c0, ?_, ?_⟩
  . rw [List.getElem_map]; exact c0
  . rw [List.getElem_map]; exact c1
theorem fst_eq (f : Nat → Int) : ∀ n, V4.fst f n = fst f n
  | 0 => rfl
  | n + 1 => by unfold V4.fst fst; rw [fst_eq f n]
theorem zHG (s : ByteArray) : V4.nchk s = nchk s := by
  unfold V4.nchk nchk
  rw [fst_eq]
  rfl
theorem fnd_eq (nm : ByteArray) : ∀ (fs : List Fd) (k : Nat), V4.fnd nm (fs.map vF) k = ixq (fun f => seq f.n nm) fs k
 | [], k => rfl
 | f :: r, k => by
  rw [List.map_cons, V4.fnd, ixq, fnd_eq nm r (k + 1)]
  rfl
theorem anyS_eq (nm : ByteArray) (fs : List Fd) : V4.anyS nm (fs.map vF) = fs.any (fun d => seq d.n nm) := by
  unfold V4.anyS
  rw [List.any_map]
  rfl
theorem fck_eq (f : Fd) (done : List Fd) : V4.fck (vF f) (done.map vF) = if fdk f ≠ 0 then fdk f else if done.any (fun d => seq d.n f.n) = true then 7 else 0 := by
 unfold V4.fck fdk
 rw [zHG, anyS_eq]
 show (if nchk f.n ≠ 0 then nchk f.n else if f.k ≠ 1 ∧ f.k ≠ 2 then 3 else if done.any (fun d => seq d.n f.n) = true then 7 else 0) = _
 by_cases h1 : nchk f.n = 0
 . simp only [h1, ne_eq, not_true, if_false]
   by_cases h2 : 1 ≤ f.k ∧ f.k ≤ 2
   . rw [if_neg (show ¬ (¬ f.k = 1 ∧ ¬ f.k = 2) by omega)]; simp [h2]
   . rw [if_pos (show (¬ f.k = 1 ∧ ¬ f.k = 2) by omega)]; simp [h2]
 . simp [h1]
theorem tfs_eq : ∀ (rest done : List Fd), V4.fst (V4.fchk ((done ++ rest).map vF)) done.length = 0 → V4.fst (V4.fchk ((done ++ rest).map vF)) (done ++ rest).length = tfs done rest
 | [], done, h => by simpa [tfs] using h
 | f :: r, done, h => by
  have hl : done.length < ((done ++ f :: r).map vF).length := by simp
  have e1 : V4.fchk ((done ++ f :: r).map vF) done.length = V4.fck (vF f) (done.map vF) := by
    rw [V4.fchk_at hl]
    congr 1
    . simp
    . simp [← List.map_take]
  rw [fck_eq] at e1
  rw [tfs]
  have hn : done.length < (done ++ f :: r).length := by simp
  by_cases h1 : fdk f = 0
  . rw [if_neg (fun c => c h1)]
    rw [if_neg (fun c => c h1)] at e1
    by_cases h2 : done.any (fun d => seq d.n f.n) = true
    . rw [if_pos h2]
      rw [if_pos h2] at e1
      rw [V4.fst_hit h (by rw [e1]; decide) hn, e1]
    . rw [if_neg h2]
      rw [if_neg h2] at e1
      have hs := V4.fst_step h e1
      have ih := tfs_eq r (done ++ [f]) (by simpa using hs)
      simpa using ih
  . rw [if_pos h1]
    rw [if_pos h1] at e1
    rw [V4.fst_hit h (by rw [e1]; exact h1) hn, e1]
theorem zG1 (n : ByteArray) (fs : List Fd) : V4.tchk ⟨n, fs.map vF⟩ = tyk n fs := by
  unfold V4.tchk tyk
  simp only [zHG, List.length_map]
  have h := tfs_eq fs [] rfl
  simp only [List.nil_append] at h
  rw [h]
theorem zFS (n : ByteArray) (fs : List Fd) (v : Value) (w : World) (h : Rd w (.row 69 2 (fs.map encF)) v) :
  Calls Tryd.prog 29 #[.agg #[.string n, v]] w fun e w' => e = .returned (.int .i64 (tyk n fs)) ∧ Below w.heap.size w w' := by
 have := V4.checkType_any ⟨n, fs.map vF⟩ v w (zD9 h)
 rw [zG1] at this
 exact this
theorem fld_eq {n : ByteArray} {fs : List Fd} (nm : ByteArray) (h : tyk n fs = 0) : (V4.fld ⟨n, fs.map vF⟩ nm).2.1 = (fck fs nm).1 ∧ (V4.fld ⟨n, fs.map vF⟩ nm).2.2 = (fck fs nm).2 := by
 unfold V4.fld
 rw [zG1, h, if_neg (by decide)]
 simp only [fnd_eq]
 have e : ixq (fun f => seq f.n nm) fs 0 = fdq fs nm := rfl
 rw [e]
 unfold fck
 by_cases c : fdq fs nm < 0
 . rw [if_pos c, if_pos c]; exact ⟨rfl, rfl⟩
 . rw [if_neg c, if_neg c]
   rcases zBC (q := fun f : Fd => seq f.n nm) fs 0 with d | ⟨j, hj, d, _⟩
   . exact absurd (show fdq fs nm < 0 by rw [show fdq fs nm = -1 from d]; decide) c
   . have d' : fdq fs nm = (j : Int) := by show ixq _ _ _ = _; rw [d]; simp
     rw [d']
     simp [hj, vF]
theorem zBI (n : ByteArray) (fs : List Fd) (v : Value) (nm : ByteArray) (w : World) (h : Rd w (.row 69 2 (fs.map encF)) v) (ht : tyk n fs = 0) :
  Calls Tryd.prog 71 #[.agg #[.string n, v], .string nm] w fun e w' => e = .returned (.tuple #[.int .i64 (fck fs nm).1, .int .i64 (fck fs nm).2]) ∧ Below w.heap.size w w' := by
 have hc := fun W (hW : Below w.heap.size w W) => V4.field_any ⟨n, fs.map vF⟩ v nm W (zD9 (h.later hW))
 obtain ⟨e1, e2⟩ := fld_eq (n := n) (fs := fs) nm ht
 rw [e1, e2] at hc
 generalize (V4.fld ⟨n, fs.map vF⟩ nm).1 = x0 at hc
 generalize (fck fs nm).1 = x1 at *
 generalize (fck fs nm).2 = x2 at *
 obtain ⟨p, cap, rfl, _, _⟩ := zAG lenF h
 have HC := hid hc
 have HB := hid ((Below.refl w.heap.size w).alloc (Nat.le_refl _) (.cells #[.string n, .slice p fs.length cap] 72))
 clear hc e1 e2 h
 go_enter Tryd.func71, Tryd.ntmps71
 go_wp2_with fail
 refine (HC.out _ HB.out).mono ?_
 rintro e w2 ⟨rfl, hb⟩
 have HB2 := hid (zAA HB.out hb HB.out.size)
 clear hb
 go_wp2_with fail
 go_ret2
 exact ⟨rfl, HB2.out⟩
end Go.Proofs.YtnlmknbhppdliaaDoor.Chk
