/-
  What checkAll says of values, one by one. How two values compare. Compare, and what the document says of it. The walk of Compare, and of the law over it. Fields: which one has a name; what is wrong with one. CheckType. What the document says of a type. The walk of ValueTypes. Field, and what the document says of it.
-/
import Derived.Lib.SmallJoins
import Derived.Test.YthndlfdbmljkhaaGreatDoorCr
namespace Go.Proofs.YthndlfdbmljkhaaGreatDoor.V4
open Go.ChangeShapes Go.WideShapes Go.ChangeAt Go.RowKit
set_option linter.unusedVariables false
set_option linter.unusedSimpArgs false
set_option maxRecDepth 20000
theorem vat_at {l : List Vl} {k : Nat} (h : k < l.length) : vat l k = vchk l[k] := by unfold vat; rw [List.getElem?_eq_getElem h]
set_option maxHeartbeats 4000000 in
theorem checkAll_any (v : Value) (l : List Vl) (w : World) (hv : ValsAt w v l) :
  Calls Tryz.prog 116 #[v] w fun e w' => e = .returned (.int .i64 (fst (vat l) l.length)) ∧ Below w.heap.size w w' := by
 obtain ⟨p, cap, rfl, hcap, hmax, hp⟩ := hv
 obtain ⟨n, hnl⟩ : ∃ n, l.length = n := ⟨_, rfl⟩
 have HP : Hid (0 < l.length → ∃ g off, p = some ⟨g, off, none⟩ ∧ ∀ j (hj : j < l.length), g < w.heap.size ∧ w.cell? ⟨g, off + j * 3, none⟩ = some (.int .i64 l[j].k) ∧ w.cell? ⟨g, off + j * 3 + 1, none⟩ = some (.int .i64 l[j].n) ∧ w.cell? ⟨g, off + j * 3 + 2, none⟩ = some (.string l[j].s)) := hp
 have HNL : Hid (l.length = n) := hnl
 have hmx : (n : Int) ≤ 9223372036854775807 := by unfold maxLen at hmax; omega
 rw [hnl]
 clear hp hnl hcap hmax
 go_enter Tryz.func116, Tryz.ntmps116
 go_wp2
 go_loopw [8] (fun i wr => ∃ k : Nat, k ≤ n ∧ i = .int .i64 (k : Nat) ∧ fst (vat l) k = 0 ∧ Below w.heap.size w wr) (fun i _ => n + 1 - (intOf i).toNat)
 case atStart => exact ⟨0, by omega, rfl, rfl, Below.refl _ _⟩
 case round =>
  obtain ⟨k, hk, rfl, hf, hB⟩ := hrel
  have HF : Hid (fst (vat l) k = 0) := hf
  have HB : Hid (Below w.heap.size w wr) := hB
  by_cases hlt : k < n
  . have hkd : k < l.length := by have := HNL.out; omega
    obtain ⟨g, off, hg, hc⟩ := HP.out (by omega)
    obtain ⟨hgs, c0, c1, c2⟩ := hc k hkd
    subst hg
    have HV : Hid (vat l k = vchk l[k]) := vat_at hkd
    obtain ⟨d, hdk⟩ : ∃ d, l[k] = d := ⟨_, rfl⟩
    rw [hdk] at c0 c1 c2 HV
    have b0 : wr.cell? ⟨g, off + k * 3, none⟩ = some (.int .i64 d.k) := (hB.cell (p := ⟨g, off + k * 3, none⟩) hgs).trans c0
    have b1 : wr.cell? ⟨g, off + k * 3 + 1, none⟩ = some (.int .i64 d.n) := (hB.cell (p := ⟨g, off + k * 3 + 1, none⟩) hgs).trans c1
    have b2 : wr.cell? ⟨g, off + k * 3 + 2, none⟩ = some (.string d.s) := (hB.cell (p := ⟨g, off + k * 3 + 2, none⟩) hgs).trans c2
    have i1 : (0 : Int) ≤ (k : Int) := by omega
    have i2 : (k : Int) < (n : Int) := by omega
    have hne : wr.heap.size ≠ g := by have := hB.size; omega
    clear hc hdk c0 c1 c2 hgs hf hB hkd
    obtain ⟨r, hr⟩ : ∃ r, vchk d = r := ⟨_, rfl⟩
    have HR : Hid (vchk d = r) := hr
    clear hr
    by_cases hr0 : r = 0
    . subst hr0
      go_wp2_with (go_at_call 143; refine (check_any ⟨d.k, d.n, d.s⟩ _).mono ?_; rintro e w2 ⟨rfl, hb2⟩; rw [show vchk ⟨d.k, d.n, d.s⟩ = 0 from HR.out]; have HB2 : Hid (Below (wr.alloc (.cells #[.int .i64 d.k, .int .i64 d.n, .string d.s] 59)).heap.size (wr.alloc (.cells #[.int .i64 d.k, .int .i64 d.n, .string d.s] 59)) w2) := hb2; clear hb2)
      go_roundw
      case rel => exact ⟨k + 1, by omega, by go_num, fst_step HF.out (HV.out.trans HR.out), below_trans (HB.out.alloc HB.out.size _) HB2.out (by simp; have := HB.out.size; omega)⟩
      case measure => simp [intOf]; omega
    . have hrb : (r == 0) = false := by simpa using hr0
      have hrd : (r != 0) = true := by simpa using hr0
      go_wp2_with (go_at_call 143; refine (check_any ⟨d.k, d.n, d.s⟩ _).mono ?_; rintro e w2 ⟨rfl, hb2⟩; rw [show vchk ⟨d.k, d.n, d.s⟩ = r from HR.out]; have HB2 : Hid (Below (wr.alloc (.cells #[.int .i64 d.k, .int .i64 d.n, .string d.s] 59)).heap.size (wr.alloc (.cells #[.int .i64 d.k, .int .i64 d.n, .string d.s] 59)) w2) := hb2; clear hb2)
      go_ret
      refine ⟨ret_int ?_, below_trans (HB.out.alloc HB.out.size _) HB2.out (by simp; have := HB.out.size; omega)⟩
      rw [fst_hit HF.out (by rw [HV.out, HR.out]; exact hr0) (by have := HNL.out; omega), HV.out, HR.out]
  . obtain rfl : k = n := by omega
    clear hf hB
    go_wp2
    go_ret
    refine ⟨ret_int ?_, HB.out⟩
    exact HF.out.symm
def sgnI (x y : Int) : Int := if x < y then -1 else if y < x then 1 else 0
def ord (a b : Vl) : Int := if a.k = 2 then Lib.compareBytes a.s.data.toList b.s.data.toList else sgnI a.n b.n
def cmpE (a b : Vl) : Int := if vchk a ≠ 0 then vchk a else if vchk b ≠ 0 then vchk b else if a.k ≠ b.k then 13 else 0
def cmpV (a b : Vl) : Int := if cmpE a b ≠ 0 then 0 else ord a b
theorem cmpB_eq : ∀ (x y : List UInt8), Lib.compareBytes x y = if x = y then 0 else if Op.bytesLess x y = true then -1 else 1
 | [], [] => by simp [Lib.compareBytes]
 | [], _ :: _ => by simp [Lib.compareBytes, Op.bytesLess]
 | _ :: _, [] => by simp [Lib.compareBytes, Op.bytesLess]
 | a :: x, b :: y => by
  unfold Lib.compareBytes Op.bytesLess
  rw [cmpB_eq x y]
  by_cases h1 : a < b
  . have hne : a ≠ b := fun h => by subst h; exact absurd h1 (by simp [UInt8.lt_iff_toNat_lt])
    simp [h1, hne]
  . by_cases h2 : b < a
    . have hne : a ≠ b := fun h => by subst h; exact absurd h2 (by simp [UInt8.lt_iff_toNat_lt])
      have hbe : (a == b) = false := by simpa using hne
      simp [h1, h2, hne]
    . have he : a = b := by
       apply UInt8.toNat_inj.1
       rw [UInt8.lt_iff_toNat_lt] at h1 h2
       omega
      subst he
      simp [h1]
theorem strCmp_any (a b : ByteArray) (w : World) :
  Calls Tryz.prog 144 #[.string a, .string b] w fun e w' => e = .returned (.int .i64 (Lib.compareBytes a.data.toList b.data.toList)) ∧ w' = w := by
 have c : ∀ w, Calls Tryz.prog 155 #[.string a, .string b] w fun e w' => e = .returned (.int .i64 (Lib.compareBytes a.data.toList b.data.toList)) ∧ w' = w := fun w => by
  go_enter Tryz.func155, Tryz.ntmps155
  go_wp2
  rw [run_callFunc_extern Tryz.func161 (by kernel_rfl) (by kernel_rfl) (by kernel_rfl) (e := Extern.BytealgCompare.compare) (by kernel_rfl), Lib.run_compareString]
  simp only [Result.andThen]
  rw [Oper.upon_value]
  go_wp2
  go_ret
  exact ⟨rfl, rfl⟩
 have C : Hid (∀ w, Calls Tryz.prog 155 #[.string a, .string b] w fun e w' => e = .returned (.int .i64 (Lib.compareBytes a.data.toList b.data.toList)) ∧ w' = w) := c
 clear c
 go_enter Tryz.func144, Tryz.ntmps144
 go_wp2_with (go_at_call 155; refine (C.out _).mono ?_; rintro e w ⟨rfl, rfl⟩)
 go_ret
 exact ⟨rfl, rfl⟩
theorem intCmp_any (a b : Int) (w : World) :
  Calls Tryz.prog 145 #[.int .i64 a, .int .i64 b] w fun e w' => e = .returned (.int .i64 (sgnI a b)) ∧ w' = w := by
 go_enter Tryz.func145, Tryz.ntmps145
 go_wp2
 all_goals
  go_ret
  refine ⟨ret_int ?_, rfl⟩
  unfold sgnI
  (repeat' split) <;> omega
theorem sign_any (a b : Int) (w : World) :
  Calls Tryz.prog 126 #[.int .i64 a, .int .i64 b] w fun e w' => e = .returned (.int .i64 (sgnI a b)) ∧ w' = w := by
 go_enter Tryz.func126, Tryz.ntmps126
 go_wp2
 all_goals
  go_ret
  refine ⟨ret_int ?_, rfl⟩
  unfold sgnI
  (repeat' split) <;> omega
theorem below_two (w : World) (o1 o2 : Obj) : Below w.heap.size w ((w.alloc o1).alloc o2) := ((Below.refl _ w).alloc (Nat.le_refl _) o1).alloc (by simp) o2
theorem below_three (w : World) (o1 o2 o3 : Obj) : Below w.heap.size w (((w.alloc o1).alloc o2).alloc o3) := (below_two w o1 o2).alloc (by simp; omega) o3
set_option maxHeartbeats 2000000 in
theorem ordered_any (a b : Vl) (w : World) (hk : a.k = 1 ∨ a.k = 2) :
   Calls Tryz.prog 80 #[vV a, vV b] w fun e w' => e = .returned (.int .i64 (ord a b)) ∧ Below w.heap.size w w' := by
 obtain ⟨k, n, s⟩ := a
 obtain ⟨k', n', s'⟩ := b
 rcases hk with hk | hk
 . simp only at hk
   subst hk
   have HO : Hid (ord ⟨1, n, s⟩ ⟨k', n', s'⟩ = sgnI n n') := by unfold ord; exact if_neg (by simp)
   unfold vV
   go_enter Tryz.func80, Tryz.ntmps80
   go_wp2_with (go_at_call 126; refine (sign_any _ _ _).mono ?_; rintro e w2 ⟨rfl, rfl⟩)
   go_ret
   exact ⟨ret_int (by rw [HO.out]), below_two w _ _⟩
 . simp only at hk
   subst hk
   have HO : Hid (ord ⟨2, n, s⟩ ⟨k', n', s'⟩ = if s.toList = s'.toList then 0 else if Op.bytesLess s.toList s'.toList = true then -1 else 1) := by
    unfold ord
    rw [Lib.toList_data, Lib.toList_data, ← cmpB_eq]
    exact if_pos rfl
   unfold vV
   go_enter Tryz.func80, Tryz.ntmps80
   go_wp2
   all_goals
    go_ret
    exact ⟨ret_int (by rw [HO.out]; simp_all), below_two w _ _⟩
theorem ret_two {a b c d : Int} (h : a = c) (h2 : b = d) : Ending.returned (.tuple #[.int .i64 a, .int .i64 b]) = .returned (.tuple #[.int .i64 c, .int .i64 d]) := by rw [h, h2]
theorem vals_two {w : World} {g : Nat} (a b : Vl) (hg : g < w.heap.size) (c0 : w.cell? ⟨g, 0, none⟩ = some (.int .i64 a.k)) (c1 : w.cell? ⟨g, 1, none⟩ = some (.int .i64 a.n)) (c2 : w.cell? ⟨g, 2, none⟩ = some (.string a.s)) (c3 : w.cell? ⟨g, 3, none⟩ = some (.int .i64 b.k)) (c4 : w.cell? ⟨g, 4, none⟩ = some (.int .i64 b.n)) (c5 : w.cell? ⟨g, 5, none⟩ = some (.string b.s)) :
   ValsAt w (.slice (some ⟨g, 0, none⟩) 2 2) [a, b] := by
 refine ⟨_, 2, rfl, by simp, by unfold maxLen; omega, fun _ => ⟨g, 0, rfl, fun j hj => ⟨hg, ?_⟩⟩⟩
 have hj' : j = 0 ∨ j = 1 := by simp at hj; omega
 rcases hj' with rfl | rfl
 . exact ⟨c0, c1, c2⟩
 . exact ⟨c3, c4, c5⟩
theorem cell_new {X : World} {cs : Array Value} {t : TypeId} {g j : Nat} {v : Value} (hg : g = X.heap.size) (hv : cs[j]? = some v) : (X.alloc (.cells cs t)).cell? ⟨g, j, none⟩ = some v := by
  subst hg
  have h : (X.alloc (.cells cs t)).heap[X.heap.size]? = some (.cells cs t (0, 0)) := by first | exact heap_alloc_new X _ | exact _root_.Go.heap_alloc_new X _
  rw [cell_of_row _ _ _ _ t (0, 0) h]
  simpa using hv
theorem fst_two (a b : Vl) : fst (vat [a, b]) 2 = if vchk a ≠ 0 then vchk a else vchk b := by
  simp [fst, vat]
set_option maxHeartbeats 4000000 in
theorem compare_any (a b : Vl) (w : World) :
   Calls Tryz.prog 118 #[vV a, vV b] w fun e w' => e = .returned (.tuple #[.int .i64 (cmpV a b), .int .i64 (cmpE a b)]) ∧ Below w.heap.size w w' := by
 obtain ⟨k, n, s⟩ := a
 obtain ⟨k', n', s'⟩ := b
 obtain ⟨r, hr⟩ : ∃ r, fst (vat [⟨k, n, s⟩, ⟨k', n', s'⟩]) 2 = r := ⟨_, rfl⟩
 have HR : Hid (fst (vat [⟨k, n, s⟩, ⟨k', n', s'⟩]) 2 = r) := hr
 have HV : Hid (cmpV ⟨k, n, s⟩ ⟨k', n', s'⟩ = if cmpE ⟨k, n, s⟩ ⟨k', n', s'⟩ ≠ 0 then 0 else ord ⟨k, n, s⟩ ⟨k', n', s'⟩) := rfl
 have HE : Hid (cmpE ⟨k, n, s⟩ ⟨k', n', s'⟩ = if r ≠ 0 then r else if k ≠ k' then 13 else 0) := by
   unfold cmpE
   rw [fst_two] at hr
   by_cases h : vchk ⟨k, n, s⟩ = 0
   . rw [if_neg (by simp [h])] at hr
     rw [if_neg (by simp [h]), hr]
     exact rfl
   . rw [if_pos h] at hr
     rw [if_pos h, ← hr]
     exact (if_pos h).symm
 clear hr
 unfold vV
 go_enter Tryz.func118, Tryz.ntmps118
 go_wp2_with fail
 refine (checkAll_any _ [⟨k, n, s⟩, ⟨k', n', s'⟩] _ (vals_two ⟨k, n, s⟩ ⟨k', n', s'⟩ (by simp) (cell_new (by simp) rfl) (cell_new (by simp) rfl) (cell_new (by simp) rfl) (cell_new (by simp) rfl) (cell_new (by simp) rfl) (cell_new (by simp) rfl))).mono ?_
 rintro e w1 ⟨he1, hb1⟩
 have he1' : e = .returned (.int .i64 r) := he1.trans (ret_int HR.out)
 subst he1'
 have HB1 : Hid (Below w.heap.size w w1) := below_trans (below_three w (.cells #[.int .i64 k, .int .i64 n, .string s] 59) (.cells #[.int .i64 k', .int .i64 n', .string s'] 59) _) hb1 (by simp; omega)
 have c0 : w1.cell? ⟨w.heap.size + 1 + 1, 0, none⟩ = some (.int .i64 k) := (hb1.cell (by simp)).trans (cell_new (by simp) rfl)
 have c1 : w1.cell? ⟨w.heap.size + 1 + 1, 1, none⟩ = some (.int .i64 n) := (hb1.cell (by simp)).trans (cell_new (by simp) rfl)
 have c2 : w1.cell? ⟨w.heap.size + 1 + 1, 2, none⟩ = some (.string s) := (hb1.cell (by simp)).trans (cell_new (by simp) rfl)
 have c3 : w1.cell? ⟨w.heap.size + 1 + 1, 3, none⟩ = some (.int .i64 k') := (hb1.cell (by simp)).trans (cell_new (by simp) rfl)
 have c4 : w1.cell? ⟨w.heap.size + 1 + 1, 4, none⟩ = some (.int .i64 n') := (hb1.cell (by simp)).trans (cell_new (by simp) rfl)
 have c5 : w1.cell? ⟨w.heap.size + 1 + 1, 5, none⟩ = some (.string s') := (hb1.cell (by simp)).trans (cell_new (by simp) rfl)
 clear hb1 he1
 by_cases hr0 : r = 0
 . subst hr0
   by_cases hkk : k = k'
   . subst hkk
     have he : cmpE ⟨k, n, s⟩ ⟨k, n', s'⟩ = 0 := by rw [HE.out]; simp
     have HE0 : Hid (cmpE ⟨k, n, s⟩ ⟨k, n', s'⟩ = 0) := he
     clear he
     by_cases hk2 : k = 2
     . subst hk2
       go_wp2_with (go_at_call 144; refine (strCmp_any _ _ _).mono ?_; rintro e w2 ⟨rfl, rfl⟩)
       go_ret2
       exact ⟨ret_two (by rw [HV.out, HE0.out]; simp [ord]) HE0.out.symm, HB1.out⟩
     . have hkb : (k == 2) = false := by simpa using hk2
       go_wp2_with (go_at_call 145; refine (intCmp_any _ _ _).mono ?_; rintro e w2 ⟨rfl, rfl⟩)
       go_ret2
       exact ⟨ret_two (by rw [HV.out, HE0.out]; simp [ord, hk2]) HE0.out.symm, HB1.out⟩
   . have he : cmpE ⟨k, n, s⟩ ⟨k', n', s'⟩ = 13 := by rw [HE.out]; simp [hkk]
     have HE0 : Hid (cmpE ⟨k, n, s⟩ ⟨k', n', s'⟩ = 13) := he
     clear he
     have hkb : (k == k') = false := by simpa using hkk
     have hkc : (k != k') = true := by simpa using hkk
     go_wp2
     go_ret2
     exact ⟨ret_two (by rw [HV.out, HE0.out]; simp) HE0.out.symm, HB1.out⟩
 . have he : cmpE ⟨k, n, s⟩ ⟨k', n', s'⟩ = r := by rw [HE.out]; simp [hr0]
   have HE0 : Hid (cmpE ⟨k, n, s⟩ ⟨k', n', s'⟩ = r) := he
   clear he
   have hkb : (r == 0) = false := by simpa using hr0
   have hkc : (r != 0) = true := by simpa using hr0
   go_wp2
   go_ret2
   exact ⟨ret_two (by rw [HV.out, HE0.out]; simp [hr0]) HE0.out.symm, HB1.out⟩
def anyS (name : ByteArray) (l : List Fd) : Bool := l.any fun f => eqS f.s name
theorem fnd_any (name : ByteArray) : ∀ (l : List Fd) (k : Nat), 0 ≤ fnd name l k ↔ anyS name l = true
 | [], k => by simp [fnd, anyS]
 | f :: l, k => by
  unfold fnd
  have ih := fnd_any name l (k + 1)
  unfold anyS at ih ⊢
  by_cases h : eqS f.s name = true
  . simp [h]
  . simp only [h, if_false, List.any_cons, Bool.false_or, Bool.not_eq_true] at *
    simpa [h] using ih
def fck (f : Fd) (ahead : List Fd) : Int :=
  if nchk f.s ≠ 0 then nchk f.s else if f.k ≠ 1 ∧ f.k ≠ 2 then 3 else if anyS f.s ahead = true then 7 else 0
theorem fchk_at {fs : List Fd} {k : Nat} (h : k < fs.length) : fchk fs k = fck fs[k] (fs.take k) := by
  unfold fchk fck
  rw [List.getElem?_eq_getElem h]
  simp only [fnd_any]
theorem fnd_hit {name : ByteArray} {l : List Fd} {k : Nat} (h : k < l.length) (he : eqS l[k].s name = true) : fnd name (l.drop k) k = k := by
  rw [List.drop_eq_getElem_cons h]
  unfold fnd
  rw [if_pos he]
theorem fnd_miss {name : ByteArray} {l : List Fd} {k : Nat} (h : k < l.length) (he : eqS l[k].s name = false) : fnd name (l.drop k) k = fnd name (l.drop (k + 1)) (k + 1) := by
  rw [List.drop_eq_getElem_cons h]
  conv => lhs; unfold fnd
  rw [if_neg (by simp [he])]
theorem fnd_end {name : ByteArray} {l : List Fd} : fnd name (l.drop l.length) l.length = -1 := by
  rw [List.drop_length]; rfl
theorem fnd_le (name : ByteArray) : ∀ (l : List Fd) (k : Nat), fnd name l k < 0 ∨ ((k : Int) ≤ fnd name l k ∧ fnd name l k < k + l.length)
 | [], k => by simp [fnd]
 | f :: l, k => by
  unfold fnd
  have ih := fnd_le name l (k + 1)
  split
  . right; simp; omega
  . rcases ih with h | h
    . left; exact h
    . right; simp; omega
set_option maxHeartbeats 4000000 in
theorem find_any (v : Value) (l : List Fd) (name : ByteArray) (w : World) (hv : FieldsAt w v l) :
  Calls Tryz.prog 136 #[v, .string name] w fun e w' => e = .returned (.int .i64 (fnd name l 0)) ∧ Below w.heap.size w w' := by
 obtain ⟨p, cap, rfl, hcap, hmax, hp⟩ := hv
 obtain ⟨n, hnl⟩ : ∃ n, l.length = n := ⟨_, rfl⟩
 have HP : Hid (0 < l.length → ∃ g off, p = some ⟨g, off, none⟩ ∧ ∀ j (hj : j < l.length), g < w.heap.size ∧ w.cell? ⟨g, off + j * 2, none⟩ = some (.string l[j].s) ∧ w.cell? ⟨g, off + j * 2 + 1, none⟩ = some (.int .i64 l[j].k)) := hp
 have HNL : Hid (l.length = n) := hnl
 have hmx : (n : Int) ≤ 9223372036854775807 := by unfold maxLen at hmax; omega
 rw [hnl]
 clear hp hnl hcap hmax
 obtain ⟨R, hR⟩ : ∃ R, fnd name l 0 = R := ⟨_, rfl⟩
 have HR : Hid (fnd name l 0 = R) := hR
 rw [hR]
 clear hR
 go_enter Tryz.func136, Tryz.ntmps136
 go_wp2
 go_loopw [9] (fun i wr => ∃ k : Nat, k ≤ n ∧ i = .int .i64 (k : Nat) ∧ fnd name (l.drop k) k = R ∧ Below w.heap.size w wr) (fun i _ => n + 1 - (intOf i).toNat)
 case atStart => exact ⟨0, by omega, rfl, by rw [List.drop_zero]; exact HR.out, Below.refl _ _⟩
 case round =>
  obtain ⟨k, hk, rfl, hf, hB⟩ := hrel
  have HF : Hid (fnd name (l.drop k) k = R) := hf
  have HB : Hid (Below w.heap.size w wr) := hB
  by_cases hlt : k < n
  . have hkd : k < l.length := by have := HNL.out; omega
    obtain ⟨g, off, hg, hc⟩ := HP.out (by omega)
    obtain ⟨hgs, c0, c1⟩ := hc k hkd
    subst hg
    have HHit : Hid (eqS l[k].s name = true → R = k) := fun h => HF.out.symm.trans (fnd_hit hkd h)
    have HMiss : Hid (eqS l[k].s name = false → fnd name (l.drop (k + 1)) (k + 1) = R) := fun h => (fnd_miss hkd h).symm.trans HF.out
    obtain ⟨d, hdk⟩ : ∃ d, l[k] = d := ⟨_, rfl⟩
    rw [hdk] at c0 c1 HHit HMiss
    have b0 : wr.cell? ⟨g, off + k * 2, none⟩ = some (.string d.s) := (hB.cell (p := ⟨g, off + k * 2, none⟩) hgs).trans c0
    have b1 : wr.cell? ⟨g, off + k * 2 + 1, none⟩ = some (.int .i64 d.k) := (hB.cell (p := ⟨g, off + k * 2 + 1, none⟩) hgs).trans c1
    have i1 : (0 : Int) ≤ (k : Int) := by omega
    have i2 : (k : Int) < (n : Int) := by omega
    have hne : wr.heap.size ≠ g := by have := hB.size; omega
    clear hc hdk c0 c1 hgs hf hB hkd
    by_cases he : d.s.toList = name.toList
    . go_wp2
      go_ret
      exact ⟨ret_int (HHit.out (by simp [eqS, he])).symm, HB.out.alloc HB.out.size _⟩
    . have heb : (d.s.toList == name.toList) = false := by simpa using he
      go_wp2
      go_roundw
      case rel => exact ⟨k + 1, by omega, by go_num, HMiss.out (by simp [eqS, he]), HB.out.alloc HB.out.size _⟩
      case measure => simp [intOf]; omega
  . obtain rfl : k = n := by omega
    have HX : Hid (R = -1) := by rw [← HF.out, ← HNL.out]; exact fnd_end
    clear hf hB
    go_wp2
    go_ret
    exact ⟨ret_int HX.out.symm, HB.out⟩
set_option maxHeartbeats 4000000 in
theorem fieldAt_any (ts : ByteArray) (v : Value) (l : List Fd) (name : ByteArray) (w : World) (hv : FieldsAt w v l) :
  Calls Tryz.prog 123 #[.agg #[.string ts, v], .string name] w fun e w' => e = .returned (.int .i64 (fnd name l 0)) ∧ Below w.heap.size w w' := by
 obtain ⟨p, cap, rfl, hcap, hmax, hp⟩ := hv
 obtain ⟨n, hnl⟩ : ∃ n, l.length = n := ⟨_, rfl⟩
 have HP : Hid (0 < l.length → ∃ g off, p = some ⟨g, off, none⟩ ∧ ∀ j (hj : j < l.length), g < w.heap.size ∧ w.cell? ⟨g, off + j * 2, none⟩ = some (.string l[j].s) ∧ w.cell? ⟨g, off + j * 2 + 1, none⟩ = some (.int .i64 l[j].k)) := hp
 have HNL : Hid (l.length = n) := hnl
 have hmx : (n : Int) ≤ 9223372036854775807 := by unfold maxLen at hmax; omega
 rw [hnl]
 clear hp hnl hcap hmax
 obtain ⟨R, hR⟩ : ∃ R, fnd name l 0 = R := ⟨_, rfl⟩
 have HR : Hid (fnd name l 0 = R) := hR
 rw [hR]
 clear hR
 go_enter Tryz.func123, Tryz.ntmps123
 go_wp2
 go_loop [5] (fun i => ∃ k : Nat, k ≤ n ∧ i = .int .i64 (k : Nat) ∧ fnd name (l.drop k) k = R) (fun i => n + 1 - (intOf i).toNat)
 case atStart => exact ⟨0, by omega, rfl, by rw [List.drop_zero]; exact HR.out⟩
 case round =>
  obtain ⟨k, hk, rfl, hf⟩ := hrel
  have HF : Hid (fnd name (l.drop k) k = R) := hf
  by_cases hlt : k < n
  . have hkd : k < l.length := by have := HNL.out; omega
    obtain ⟨g, off, hg, hc⟩ := HP.out (by omega)
    obtain ⟨hgs, c0, c1⟩ := hc k hkd
    subst hg
    have HHit : Hid (eqS l[k].s name = true → R = k) := fun h => HF.out.symm.trans (fnd_hit hkd h)
    have HMiss : Hid (eqS l[k].s name = false → fnd name (l.drop (k + 1)) (k + 1) = R) := fun h => (fnd_miss hkd h).symm.trans HF.out
    obtain ⟨d, hdk⟩ : ∃ d, l[k] = d := ⟨_, rfl⟩
    rw [hdk] at c0 c1 HHit HMiss
    have i1 : (0 : Int) ≤ (k : Int) := by omega
    have i2 : (k : Int) < (n : Int) := by omega
    have b0 : (w.alloc (.cells #[.string ts, .slice (some ⟨g, off, none⟩) n cap] 72)).cell? ⟨g, off + k * 2, none⟩ = some (.string d.s) := (((Below.refl _ w).alloc (Nat.le_refl _) _).cell (p := ⟨g, off + k * 2, none⟩) hgs).trans c0
    clear hc hdk c0 c1 hgs hf hkd
    by_cases he : d.s.toList = name.toList
    . go_wp2
      go_ret
      exact ⟨ret_int (HHit.out (by simp [eqS, he])).symm, (Below.refl _ w).alloc (Nat.le_refl _) _⟩
    . have heb : (d.s.toList == name.toList) = false := by simpa using he
      go_wp2
      go_round
      case rel => exact ⟨k + 1, by omega, by go_num, HMiss.out (by simp [eqS, he])⟩
      case measure => simp [intOf]; omega
  . obtain rfl : k = n := by omega
    have HX : Hid (R = -1) := by rw [← HF.out, ← HNL.out]; exact fnd_end
    clear hf
    go_wp2
    go_ret
    exact ⟨ret_int HX.out.symm, (Below.refl _ w).alloc (Nat.le_refl _) _⟩
set_option maxHeartbeats 4000000 in
theorem checkField_any (f : Fd) (v : Value) (l : List Fd) (w : World) (hv : FieldsAt w v l) :
   Calls Tryz.prog 98 #[.agg #[.string f.s, .int .i64 f.k], v] w fun e w' => e = .returned (.int .i64 (fck f l)) ∧ Below w.heap.size w w' := by
 obtain ⟨s, k⟩ := f
 obtain ⟨n, hn⟩ : ∃ n, nchk s = n := ⟨_, rfl⟩
 obtain ⟨a, ha⟩ : ∃ a, anyS s l = a := ⟨_, rfl⟩
 obtain ⟨R, hR⟩ : ∃ R, fnd s l 0 = R := ⟨_, rfl⟩
 have HA : Hid (0 ≤ R ↔ a = true) := by rw [← hR, ← ha]; exact fnd_any s l 0
 have HK : Hid (fck ⟨s, k⟩ l = if n ≠ 0 then n else if k ≠ 1 ∧ k ≠ 2 then 3 else if a = true then 7 else 0) := by subst hn ha; exact rfl
 have HV : Hid (FieldsAt w v l) := hv
 have H1 : Hid (∀ W, Calls Tryz.prog 97 #[.string s] W fun e w' => e = .returned (.int .i64 n) ∧ w' = W) := fun W => by rw [← hn]; exact name_any _ _
 have H2 : Hid (∀ W, Below w.heap.size w W → Calls Tryz.prog 136 #[v, .string s] W fun e w' => e = .returned (.int .i64 R) ∧ Below W.heap.size W w') := fun W hb => by rw [← hR]; exact find_any _ _ _ _ (HV.out.below hb)
 clear hn ha hR hv
 by_cases hn0 : n = 0
 . subst hn0
   by_cases hk : k ≠ 1 ∧ k ≠ 2
   . have he : fck ⟨s, k⟩ l = 3 := by rw [HK.out]; simp [hk.1, hk.2]
     have HE : Hid (fck ⟨s, k⟩ l = 3) := he
     clear he
     obtain ⟨k1, k2⟩ := hk
     have kb1 : (k == 1) = false := by simpa using k1
     have kb2 : (k == 2) = false := by simpa using k2
     go_enter Tryz.func98, Tryz.ntmps98
     go_wp2_with (first | (go_at_call 97; refine (H1.out _).mono ?_; rintro e w2 ⟨rfl, rfl⟩) | (go_at_call 135; go_in))
     go_ret
     exact ⟨ret_int HE.out.symm, (Below.refl _ w).alloc (Nat.le_refl _) _⟩
   . have hk' : k = 1 ∨ k = 2 := by omega
     have he : fck ⟨s, k⟩ l = if 0 ≤ R then 7 else 0 := by
      rw [HK.out, if_neg (by simp), if_neg hk]
      by_cases c : 0 ≤ R
      . rw [if_pos c, if_pos (HA.out.1 c)]
      . rw [if_neg c, if_neg (fun h => c (HA.out.2 h))]
     have HE : Hid (fck ⟨s, k⟩ l = if 0 ≤ R then 7 else 0) := he
     clear he hk
     rcases hk' with rfl | rfl
     all_goals
      go_enter Tryz.func98, Tryz.ntmps98
      go_wp2_with (first | (go_at_call 97; refine (H1.out _).mono ?_; rintro e w2 ⟨rfl, rfl⟩) | (go_at_call 135; go_in) | (go_at_call 136; refine (H2.out _ ((Below.refl _ w).alloc (Nat.le_refl _) _)).mono ?_; rintro e w2 ⟨rfl, hb2⟩; have HB2 : Hid (Below w.heap.size w w2) := below_trans ((Below.refl _ w).alloc (Nat.le_refl _) _) hb2 (by simp); clear hb2))
      all_goals
        go_ret
        exact ⟨ret_int (by rw [HE.out]; first | rw [if_pos (by assumption)] | rw [if_neg (by omega)]), HB2.out⟩
 . have he : fck ⟨s, k⟩ l = n := by rw [HK.out]; simp [hn0]
   have HE : Hid (fck ⟨s, k⟩ l = n) := he
   clear he
   have kb1 : (n == 0) = false := by simpa using hn0
   have kb2 : (n != 0) = true := by simpa using hn0
   go_enter Tryz.func98, Tryz.ntmps98
   go_wp2_with (first | (go_at_call 97; refine (H1.out _).mono ?_; rintro e w2 ⟨rfl, rfl⟩))
   go_ret
   exact ⟨ret_int HE.out.symm, (Below.refl _ w).alloc (Nat.le_refl _) _⟩
theorem FieldsAt.take {w : World} {p : Option Addr} {n cap k : Nat} {l : List Fd} (h : FieldsAt w (.slice p n cap) l) (hk : k ≤ n) : FieldsAt w (.slice p k cap) (l.take k) := by
  obtain ⟨p', cap', h1, hc, hm, h2⟩ := h
  simp at h1
  obtain ⟨rfl, rfl, rfl⟩ := h1
  have hl : (l.take k).length = k := by rw [List.length_take]; omega
  refine ⟨p, cap, by rw [hl], by rw [hl]; omega, hm, fun h0 => ?_⟩
  obtain ⟨g, off, h3, h4⟩ := h2 (by omega)
  refine ⟨g, off, h3, fun j hj => ?_⟩
  obtain ⟨a, b0, b1⟩ := h4 j (by omega)
  rw [List.getElem_take]
  exact ⟨a, b0, b1⟩
theorem tchk_mid {t : Ty} (h1 : nchk t.s = 0) (h2 : ¬ 4 < t.fs.length) : tchk t = fst (fchk t.fs) t.fs.length := by
  unfold tchk
  rw [if_neg (by simp [h1]), if_neg h2]
set_option maxHeartbeats 4000000 in
theorem checkType_any (t : Ty) (v : Value) (w : World) (hv : FieldsAt w v t.fs) :
   Calls Tryz.prog 55 #[.agg #[.string t.s, v]] w fun e w' => e = .returned (.int .i64 (tchk t)) ∧ Below w.heap.size w w' := by
 obtain ⟨s, l⟩ := t
 obtain ⟨T, hT⟩ : ∃ T, tchk ⟨s, l⟩ = T := ⟨_, rfl⟩
 have HT : Hid (tchk ⟨s, l⟩ = T) := hT
 rw [hT]
 clear hT
 simp only at hv
 have HV : Hid (FieldsAt w v l) := hv
 obtain ⟨p, cap, rfl, hcap, hmax, hp⟩ := hv
 obtain ⟨n, hnl⟩ : ∃ n, l.length = n := ⟨_, rfl⟩
 have HNL : Hid (l.length = n) := hnl
 have HP : Hid (0 < l.length → ∃ g off, p = some ⟨g, off, none⟩ ∧ ∀ j (hj : j < l.length), g < w.heap.size ∧ w.cell? ⟨g, off + j * 2, none⟩ = some (.string l[j].s) ∧ w.cell? ⟨g, off + j * 2 + 1, none⟩ = some (.int .i64 l[j].k)) := hp
 obtain ⟨c, hc⟩ : ∃ c, nchk s = c := ⟨_, rfl⟩
 have HC : Hid (nchk s = c) := hc
 have H1 : Hid (∀ W, Calls Tryz.prog 97 #[.string s] W fun e w' => e = .returned (.int .i64 c) ∧ w' = W) := fun W => by rw [← hc]; exact name_any _ _
 rw [hnl] at hcap HV ⊢
 clear hp hnl hc hmax
 by_cases hc0 : c = 0
 . subst hc0
   by_cases h4 : 4 < n
   . have HX : Hid (T = 1) := by rw [← HT.out]; unfold tchk; simp only; rw [if_neg (by simp [HC.out]), if_pos (by rw [HNL.out]; exact h4)]; exact rfl
     have h4' : decide ((4 : Int) < (n : Int)) = true := by simp; omega
     go_enter Tryz.func55, Tryz.ntmps55
     go_wp2_with (go_at_call 97; refine (H1.out _).mono ?_; rintro e w2 ⟨rfl, rfl⟩)
     go_ret
     exact ⟨ret_int HX.out.symm, (Below.refl _ w).alloc (Nat.le_refl _) _⟩
   . have h4' : decide ((4 : Int) < (n : Int)) = false := by simp; omega
     have HX : Hid (T = fst (fchk l) n) := by rw [← HT.out, tchk_mid (by exact HC.out) (by simp only; rw [HNL.out]; exact h4)]; simp only; rw [HNL.out]; exact rfl
     go_enter Tryz.func55, Tryz.ntmps55
     go_wp2_with (go_at_call 97; refine (H1.out _).mono ?_; rintro e w2 ⟨rfl, rfl⟩)
     have HB0 : Hid (Below w.heap.size w (w.alloc (.cells #[.string s, .slice p n cap] 72))) := (Below.refl _ w).alloc (Nat.le_refl _) _
     go_loopw [20] (fun i wr => ∃ k : Nat, k ≤ n ∧ i = .int .i64 (k : Nat) ∧ fst (fchk l) k = 0 ∧ Below w.heap.size w wr ∧ wr.cell? ⟨w.heap.size, 1, none⟩ = some (.slice p n cap)) (fun i _ => n + 1 - (intOf i).toNat)
     case atStart => exact ⟨0, by omega, rfl, rfl, HB0.out, by simp⟩
     case round =>
      obtain ⟨k, hk, rfl, hf, hB, bt⟩ := hrel
      have HF : Hid (fst (fchk l) k = 0) := hf
      have HB : Hid (Below w.heap.size w wr) := hB
      by_cases hlt : k < n
      . have hkd : k < l.length := by have := HNL.out; omega
        obtain ⟨g, off, hg, hcl⟩ := HP.out (by omega)
        obtain ⟨hgs, c0, c1⟩ := hcl k hkd
        subst hg
        have HKF : Hid (fchk l k = fck l[k] (l.take k)) := fchk_at hkd
        obtain ⟨d, hdk⟩ : ∃ d, l[k] = d := ⟨_, rfl⟩
        rw [hdk] at c0 c1 HKF
        have b0 : wr.cell? ⟨g, off + k * 2, none⟩ = some (.string d.s) := (hB.cell (p := ⟨g, off + k * 2, none⟩) hgs).trans c0
        have b1 : wr.cell? ⟨g, off + k * 2 + 1, none⟩ = some (.int .i64 d.k) := (hB.cell (p := ⟨g, off + k * 2 + 1, none⟩) hgs).trans c1
        have i1 : (0 : Int) ≤ (k : Int) := by omega
        have i2 : (k : Int) < (n : Int) := by omega
        have i3 : (k : Int) ≤ (cap : Int) := by omega
        have i4 : k ≤ cap := by omega
        have hwr : w.heap.size < wr.heap.size := World.block_lt_of_cell? wr ⟨w.heap.size, 1, none⟩ bt
        obtain ⟨r, hr⟩ : ∃ r, fck d (l.take k) = r := ⟨_, rfl⟩
        rw [hr] at HKF
        have H2 : Hid (∀ W, Below w.heap.size w W → Calls Tryz.prog 98 #[.agg #[.string d.s, .int .i64 d.k], .slice (some ⟨g, off, none⟩) k cap] W fun e w' => e = .returned (.int .i64 r) ∧ Below W.heap.size W w') := fun W hb => by rw [← hr]; exact checkField_any d _ _ _ ((HV.out.below hb).take (by omega))
        have HWR : Hid (w.heap.size < wr.heap.size) := hwr
        have hne : wr.heap.size ≠ w.heap.size := by omega
        have hne2 : w.heap.size ≠ wr.heap.size := by omega
        clear hcl hdk c0 c1 hgs hf hB hkd hr hwr
        go_wp2_with fail
        have d0 : (wr.alloc (.cells #[.string d.s, .int .i64 d.k] 93)).cell? ⟨wr.heap.size, 0, none⟩ = some (.string d.s) := cell_new rfl rfl
        have d1 : (wr.alloc (.cells #[.string d.s, .int .i64 d.k] 93)).cell? ⟨wr.heap.size, 1, none⟩ = some (.int .i64 d.k) := cell_new rfl rfl
        have dt : (wr.alloc (.cells #[.string d.s, .int .i64 d.k] 93)).cell? ⟨w.heap.size, 1, none⟩ = some (.slice (some ⟨g, off, none⟩) n cap) := (((Below.refl _ wr).alloc (Nat.le_refl _) _).cell (p := ⟨w.heap.size, 1, none⟩) HWR.out).trans bt
        have HW1 : Hid (Below w.heap.size w (wr.alloc (.cells #[.string d.s, .int .i64 d.k] 93)) ∧ w.heap.size < (wr.alloc (.cells #[.string d.s, .int .i64 d.k] 93)).heap.size ∧ wr.heap.size < (wr.alloc (.cells #[.string d.s, .int .i64 d.k] 93)).heap.size) := ⟨HB.out.alloc HB.out.size _, by have := HWR.out; simp; omega, by simp⟩
        generalize wr.alloc (.cells #[.string d.s, .int .i64 d.k] 93) = W1 at d0 d1 dt HW1 ⊢
        clear b0 b1 bt
        go_region_held3 (fun w' => w'.cell? ⟨wr.heap.size, 0, none⟩ = some (.string d.s) ∧ w'.cell? ⟨wr.heap.size, 1, none⟩ = some (.int .i64 d.k) ∧ w'.cell? ⟨w.heap.size, 1, none⟩ = some (.slice (some ⟨g, off, none⟩) n cap))
          (first | exact ⟨q0, q1, q2⟩ | (go_keep; done))
          ((go_at_call 98; go_loud (refine (H2.out _ HW1.out.1.drew).mono ?_); rintro e w2 ⟨rfl, hb2⟩; have HB2 : Hid (Below W1.heap.size W1 w2) := below_trans ((Below.refl _ W1).drew) hb2 (Nat.le_refl _); have q0 : w2.cell? ⟨wr.heap.size, 0, none⟩ = some (.string d.s) := (HB2.out.cell (p := ⟨wr.heap.size, 0, none⟩) HW1.out.2.2).trans d0; have q1 : w2.cell? ⟨wr.heap.size, 1, none⟩ = some (.int .i64 d.k) := (HB2.out.cell (p := ⟨wr.heap.size, 1, none⟩) HW1.out.2.2).trans d1; have q2 : w2.cell? ⟨w.heap.size, 1, none⟩ = some (.slice (some ⟨g, off, none⟩) n cap) := (HB2.out.cell (p := ⟨w.heap.size, 1, none⟩) HW1.out.2.1).trans dt; clear hb2))
        have HQ : Hid (w2.cell? ⟨w.heap.size, 1, none⟩ = some (.slice (some ⟨g, off, none⟩) n cap)) := q2
        clear d0 d1 dt q0 q1 q2
        by_cases hr0 : r = 0
        . subst hr0
          go_wp2
          go_roundw
          case rel => exact ⟨k + 1, by omega, by go_num, fst_step HF.out HKF.out, below_trans HW1.out.1 HB2.out (by have := HW1.out; omega), HQ.out⟩
          case measure => simp [intOf]; omega
        . have hrb : (r == 0) = false := by simpa using hr0
          have hrd : (r != 0) = true := by simpa using hr0
          go_wp2
          go_ret
          exact ⟨ret_int (by rw [HX.out, fst_hit HF.out (by rw [HKF.out]; exact hr0) hlt, HKF.out]), below_trans HW1.out.1 HB2.out (by have := HW1.out; omega)⟩
      . obtain rfl : k = n := by omega
        clear hf hB bt
        go_wp2
        go_ret
        exact ⟨ret_int (by rw [HX.out, HF.out]), HB.out⟩
 . have HX : Hid (T = c) := by rw [← HT.out]; unfold tchk; simp only; rw [if_pos (by rw [HC.out]; exact hc0), HC.out]; exact rfl
   have hrb : (c == 0) = false := by simpa using hc0
   have hrd : (c != 0) = true := by simpa using hc0
   go_enter Tryz.func55, Tryz.ntmps55
   go_wp2_with (go_at_call 97; refine (H1.out _).mono ?_; rintro e w2 ⟨rfl, rfl⟩)
   go_ret
   exact ⟨ret_int HX.out.symm, (Below.refl _ w).alloc (Nat.le_refl _) _⟩
theorem fst_stay {f : Nat → Int} {k n : Nat} (h : fst f k ≠ 0) (hk : k ≤ n) : fst f n = fst f k := by
  induction n with
  | zero => obtain rfl : k = 0 := by omega
            rfl
  | succ n ih =>
    by_cases e : k = n + 1
    . subst e; rfl
    . have := ih (by omega)
      conv => lhs; unfold fst
      rw [if_pos (by rw [this]; exact h), this]
theorem fst_one {f : Nat → Int} {k : Nat} (h : fst f k = 0) : fst f (k + 1) = f k := by
  conv => lhs; unfold fst
  rw [if_neg (by simp [h])]
theorem any_snoc {name : ByteArray} {l : List Fd} {j : Nat} (h : j < l.length) : anyS name (l.take (j + 1)) = (anyS name (l.take j) || eqS l[j].s name) := by
  unfold anyS
  rw [List.take_succ_eq_append_getElem h, List.any_append]
  simp
theorem any_more {name : ByteArray} {l : List Fd} {j k : Nat} (h : anyS name (l.take j) = true) (hk : j ≤ k) : anyS name (l.take k) = true := by
  unfold anyS at h ⊢
  rw [List.any_eq_true] at h ⊢
  obtain ⟨x, hx, he⟩ := h
  exact ⟨x, (List.take_subset_take_left l hk) hx, he⟩
set_option maxHeartbeats 8000000 in
theorem tfault_any (t : Ty) (v : Value) (w : World) (hv : FieldsAt w v t.fs) :
   Calls Tryz.prog 33 #[.agg #[.string t.s, v]] w fun e w' => e = .returned (.int .i64 (tchk t)) ∧ Below w.heap.size w w' := by
 obtain ⟨s, l⟩ := t
 obtain ⟨T, hT⟩ : ∃ T, tchk ⟨s, l⟩ = T := ⟨_, rfl⟩
 have HT : Hid (tchk ⟨s, l⟩ = T) := hT
 rw [hT]
 clear hT
 simp only at hv
 obtain ⟨p, cap, rfl, hcap, hmax, hp⟩ := hv
 obtain ⟨n, hnl⟩ : ∃ n, l.length = n := ⟨_, rfl⟩
 have HNL : Hid (l.length = n) := hnl
 have HP : Hid (0 < l.length → ∃ g off, p = some ⟨g, off, none⟩ ∧ ∀ j (hj : j < l.length), g < w.heap.size ∧ w.cell? ⟨g, off + j * 2, none⟩ = some (.string l[j].s) ∧ w.cell? ⟨g, off + j * 2 + 1, none⟩ = some (.int .i64 l[j].k)) := hp
 obtain ⟨c, hc⟩ : ∃ c, nchk s = c := ⟨_, rfl⟩
 have HC : Hid (nchk s = c) := hc
 have H1 : Hid (∀ W, Calls Tryz.prog 70 #[.string s] W fun e w' => e = .returned (.int .i64 c) ∧ w' = W) := fun W => by rw [← hc]; exact nfault_any _ _
 rw [hnl]
 have hmx : (n : Int) ≤ 9223372036854775807 := by unfold maxLen at hmax; omega
 clear hp hnl hc hmax hcap
 by_cases hc0 : c = 0
 . subst hc0
   by_cases h4 : 4 < n
   . have HX : Hid (T = 1) := by rw [← HT.out]; unfold tchk; simp only; rw [if_neg (by simp [HC.out]), if_pos (by rw [HNL.out]; exact h4)]; exact rfl
     have h4' : decide ((4 : Int) < (n : Int)) = true := by simp; omega
     have h0n : (0 : Int) < (n : Int) := by omega
     go_enter Tryz.func33, Tryz.ntmps33
     go_wp2_with (go_at_call 70; refine (H1.out _).mono ?_; rintro e w2 ⟨rfl, rfl⟩)
     go_loop [3, 4] (fun e i => e = .int .i64 1 ∧ i = .int .i64 0) (fun _ i => 1)
     case atStart => exact ⟨rfl, rfl⟩
     case round =>
      obtain ⟨rfl, rfl⟩ := hrel
      go_wp2
      go_ret
      exact ⟨ret_int HX.out.symm, (Below.refl _ w).alloc (Nat.le_refl _) _⟩
   . have h4' : decide ((4 : Int) < (n : Int)) = false := by simp; omega
     have HX : Hid (T = fst (fchk l) n) := by rw [← HT.out, tchk_mid (by exact HC.out) (by simp only; rw [HNL.out]; exact h4)]; simp only; rw [HNL.out]; exact rfl
     go_enter Tryz.func33, Tryz.ntmps33
     go_wp2_with (go_at_call 70; refine (H1.out _).mono ?_; rintro e w2 ⟨rfl, rfl⟩)
     have HB0 : Hid (Below w.heap.size w (w.alloc (.cells #[.string s, .slice p n cap] 72))) := (Below.refl _ w).alloc (Nat.le_refl _) _
     go_loopw [3, 4] (fun e i wr => ∃ (k : Nat) (E : Int), k ≤ n ∧ e = .int .i64 E ∧ i = .int .i64 (k : Nat) ∧ fst (fchk l) k = E ∧ Below w.heap.size w wr ∧ wr.cell? ⟨w.heap.size, 1, none⟩ = some (.slice p n cap)) (fun _ i _ => n + 1 - (intOf i).toNat)
     case atStart => exact ⟨0, 0, by omega, rfl, rfl, rfl, HB0.out, by simp⟩
     case round =>
      obtain ⟨k, E, hk, rfl, rfl, hf, hB, bt⟩ := hrel
      have HF : Hid (fst (fchk l) k = E) := hf
      have HB : Hid (Below w.heap.size w wr) := hB
      have i1 : (0 : Int) ≤ (k : Int) := by omega
      by_cases hlt : k < n
      . have i2 : (k : Int) < (n : Int) := by omega
        by_cases hE : E = 0
        . subst hE
          have hkd : k < l.length := by have := HNL.out; omega
          obtain ⟨g, off, hg, hcl⟩ := HP.out (by omega)
          obtain ⟨hgs, c0, c1⟩ := hcl k hkd
          subst hg
          have HCL : Hid (∀ j (hj : j < l.length), g < w.heap.size ∧ w.cell? ⟨g, off + j * 2, none⟩ = some (.string l[j].s) ∧ w.cell? ⟨g, off + j * 2 + 1, none⟩ = some (.int .i64 l[j].k)) := hcl
          have HKF : Hid (fchk l k = fck l[k] (l.take k)) := fchk_at hkd
          obtain ⟨d, hdk⟩ : ∃ d, l[k] = d := ⟨_, rfl⟩
          rw [hdk] at c0 c1 HKF
          have b0 : wr.cell? ⟨g, off + k * 2, none⟩ = some (.string d.s) := (hB.cell (p := ⟨g, off + k * 2, none⟩) hgs).trans c0
          have b1 : wr.cell? ⟨g, off + k * 2 + 1, none⟩ = some (.int .i64 d.k) := (hB.cell (p := ⟨g, off + k * 2 + 1, none⟩) hgs).trans c1
          have HWR : Hid (w.heap.size < wr.heap.size) := World.block_lt_of_cell? wr ⟨w.heap.size, 1, none⟩ bt
          obtain ⟨nf, hnf⟩ : ∃ x, nchk d.s = x := ⟨_, rfl⟩
          have H2 : Hid (∀ W, Calls Tryz.prog 70 #[.string d.s] W fun e w' => e = .returned (.int .i64 nf) ∧ w' = W) := fun W => by rw [← hnf]; exact nfault_any _ _
          have HNF : Hid (nchk d.s = nf) := hnf
          clear hcl hdk c0 c1 hgs hf hB hkd hnf
          have d0 : (wr.alloc (.cells #[.string d.s, .int .i64 d.k] 93)).cell? ⟨wr.heap.size, 0, none⟩ = some (.string d.s) := cell_new rfl rfl
          have d1 : (wr.alloc (.cells #[.string d.s, .int .i64 d.k] 93)).cell? ⟨wr.heap.size, 1, none⟩ = some (.int .i64 d.k) := cell_new rfl rfl
          have dt : (wr.alloc (.cells #[.string d.s, .int .i64 d.k] 93)).cell? ⟨w.heap.size, 1, none⟩ = some (.slice (some ⟨g, off, none⟩) n cap) := (((Below.refl _ wr).alloc (Nat.le_refl _) _).cell (p := ⟨w.heap.size, 1, none⟩) HWR.out).trans bt
          have HW1 : Hid (Below w.heap.size w (wr.alloc (.cells #[.string d.s, .int .i64 d.k] 93))) := HB.out.alloc HB.out.size _
          go_wp2_with fail
          generalize wr.alloc (.cells #[.string d.s, .int .i64 d.k] 93) = W1 at d0 d1 dt HW1 ⊢
          clear b0 b1 bt HWR HB
          generalize wr.heap.size = fb at d0 d1 ⊢
          refine (H2.out _).mono ?_
          rintro e W1 ⟨rfl, rfl⟩
          by_cases hnf0 : nf = 0
          . subst hnf0
            by_cases hkk : 1 ≤ d.k ∧ d.k ≤ 2
            . have HFC : Hid (fck d (l.take k) = if anyS d.s (l.take k) = true then 7 else 0) := by
               unfold fck
               rw [if_neg (by simp [HNF.out]), if_neg (by omega)]
               exact rfl
              go_wp2_with (go_at_call 17; refine (in_any _ _ _ true (Say.yes hkk) _).mono ?_; rintro e W1 ⟨rfl, rfl⟩)
              go_loopw [3, 6] (fun e i wr => ∃ (j : Nat) (a : Bool), j ≤ k ∧ e = .int .i64 (if a = true then 7 else 0) ∧ i = .int .i64 (j : Nat) ∧ anyS d.s (l.take j) = a ∧ Below w.heap.size w wr ∧ wr.cell? ⟨w.heap.size, 1, none⟩ = some (.slice (some ⟨g, off, none⟩) n cap) ∧ wr.cell? ⟨fb, 0, none⟩ = some (.string d.s)) (fun _ i _ => k + 1 - (intOf i).toNat)
              case atStart => exact ⟨0, false, by omega, rfl, rfl, rfl, HW1.out, dt, d0⟩
              case round =>
               obtain ⟨j, a, hj, rfl, rfl, ha, hB2, bt2, bf2⟩ := hrel
               have HA : Hid (anyS d.s (l.take j) = a) := ha
               have HB2 : Hid (Below w.heap.size w wr) := hB2
               have j1 : (0 : Int) ≤ (j : Int) := by omega
               clear ha dt d0 d1
               by_cases hjk : j < k
               . have j2 : (j : Int) < (k : Int) := by omega
                 have j3 : (j : Int) < (n : Int) := by omega
                 cases a
                 . have hjl : j < l.length := by have := HNL.out; omega
                   obtain ⟨hgs, c0, c1j⟩ := HCL.out j hjl
                   have HSN : Hid (anyS d.s (l.take (j + 1)) = eqS l[j].s d.s) := by rw [any_snoc hjl, HA.out, Bool.false_or]; exact rfl
                   obtain ⟨y, hy⟩ : ∃ y, l[j].s = y := ⟨_, rfl⟩
                   rw [hy] at c0 HSN
                   have b0 : wr.cell? ⟨g, off + j * 2, none⟩ = some (.string y) := (hB2.cell (p := ⟨g, off + j * 2, none⟩) hgs).trans c0
                   clear hgs c0 c1j hy hjl hB2
                   by_cases he : y.toList = d.s.toList
                   . go_wp2_with fail
                     go_quiet (fail)
                     go_wp2
                     go_roundw
                     case rel => exact ⟨j + 1, true, by omega, rfl, by go_num, by rw [HSN.out]; simp [eqS, he], by first | exact HB2.out | exact below_trans HB2.out (Go.Joins.below_draws _ _ _) (Nat.le_refl _), by assumption, by assumption⟩
                     case measure => simp [intOf]; omega
                   . have heb : (y.toList == d.s.toList) = false := by simpa using he
                     go_wp2_with fail
                     go_quiet (fail)
                     go_wp2
                     go_roundw
                     case rel => exact ⟨j + 1, false, by omega, rfl, by go_num, by rw [HSN.out]; simp [eqS, he], by first | exact HB2.out | exact below_trans HB2.out (Go.Joins.below_draws _ _ _) (Nat.le_refl _), by assumption, by assumption⟩
                     case measure => simp [intOf]; omega
                 . have HBT : Hid (wr.cell? ⟨w.heap.size, 1, none⟩ = some (.slice (some ⟨g, off, none⟩) n cap)) := bt2
                   have HFK : Hid (fst (fchk l) (k + 1) = 7) := by
                     rw [fst_one HF.out, HKF.out, HFC.out, if_pos (any_more HA.out (by omega))]
                     exact rfl
                   go_wp2
                   go_roundw
                   case rel => exact ⟨k + 1, 7, by omega, rfl, by go_num, HFK.out, HB2.out, HBT.out⟩
                   case measure => simp [intOf]; omega
               . obtain rfl : j = k := by omega
                 have HBT : Hid (wr.cell? ⟨w.heap.size, 1, none⟩ = some (.slice (some ⟨g, off, none⟩) n cap)) := bt2
                 cases a
                 . have HFK : Hid (fst (fchk l) (j + 1) = 0) := by
                     rw [fst_one HF.out, HKF.out, HFC.out, if_neg (by rw [HA.out]; simp)]
                     exact rfl
                   go_wp2
                   go_roundw
                   case rel => exact ⟨j + 1, 0, by omega, rfl, by go_num, HFK.out, HB2.out, HBT.out⟩
                   case measure => simp [intOf]; omega
                 . have HFK : Hid (fst (fchk l) (j + 1) = 7) := by
                     rw [fst_one HF.out, HKF.out, HFC.out, if_pos HA.out]
                     exact rfl
                   go_wp2
                   go_roundw
                   case rel => exact ⟨j + 1, 7, by omega, rfl, by go_num, HFK.out, HB2.out, HBT.out⟩
                   case measure => simp [intOf]; omega
            . have HFK : Hid (fst (fchk l) (k + 1) = 3) := by
               rw [fst_one HF.out, HKF.out]
               unfold fck
               rw [if_neg (by simp [HNF.out]), if_pos (by omega)]
               exact rfl
              have HBT : Hid (W1.cell? ⟨w.heap.size, 1, none⟩ = some (.slice (some ⟨g, off, none⟩) n cap)) := dt
              go_wp2_with (go_at_call 17; refine (in_any _ _ _ false (Say.no hkk) _).mono ?_; rintro e W1 ⟨rfl, rfl⟩)
              go_loop [3, 6] (fun e i => e = .int .i64 3 ∧ i = .int .i64 0) (fun _ i => 1)
              case atStart => exact ⟨rfl, rfl⟩
              case round =>
               obtain ⟨rfl, rfl⟩ := hrel
               go_wp2
               all_goals
                 go_roundw
                 case rel => exact ⟨k + 1, 3, by omega, rfl, by go_num, HFK.out, HW1.out, HBT.out⟩
                 case measure => simp [intOf]; omega
          . have HFK : Hid (fst (fchk l) (k + 1) = nf) := by
              rw [fst_one HF.out, HKF.out]
              unfold fck
              rw [if_pos (by rw [HNF.out]; exact hnf0), HNF.out]
              exact rfl
            have HBT : Hid (W1.cell? ⟨w.heap.size, 1, none⟩ = some (.slice (some ⟨g, off, none⟩) n cap)) := dt
            have hrb : (nf == 0) = false := by simpa using hnf0
            go_wp2
            go_loop [3, 6] (fun e i => e = .int .i64 nf ∧ i = .int .i64 0) (fun _ i => 1)
            case atStart => exact ⟨rfl, rfl⟩
            case round =>
              obtain ⟨rfl, rfl⟩ := hrel
              go_wp2
              all_goals
               go_roundw
               case rel => exact ⟨k + 1, nf, by omega, rfl, by go_num, HFK.out, HW1.out, HBT.out⟩
               case measure => simp [intOf]; omega
        . have hrb : (E == 0) = false := by simpa using hE
          clear hf hB
          have HTE : Hid (T = E) := by rw [HX.out, fst_stay (by rw [HF.out]; exact hE) (by omega : k ≤ n), HF.out]; exact rfl
          go_wp2
          go_ret
          exact ⟨ret_int HTE.out.symm, HB.out⟩
      . obtain rfl : k = n := by omega
        clear hf hB
        have HTE : Hid (T = E) := by rw [HX.out, HF.out]; exact rfl
        go_wp2
        go_ret
        exact ⟨ret_int HTE.out.symm, HB.out⟩
 . have HX : Hid (T = c) := by rw [← HT.out]; unfold tchk; simp only; rw [if_pos (by rw [HC.out]; exact hc0), HC.out]; exact rfl
   have hrb : (c == 0) = false := by simpa using hc0
   have hrd : (c != 0) = true := by simpa using hc0
   go_enter Tryz.func33, Tryz.ntmps33
   go_wp2_with (go_at_call 70; refine (H1.out _).mono ?_; rintro e w2 ⟨rfl, rfl⟩)
   go_loop [3, 4] (fun e i => e = .int .i64 c ∧ i = .int .i64 0) (fun _ i => 1)
   case atStart => exact ⟨rfl, rfl⟩
   case round =>
     obtain ⟨rfl, rfl⟩ := hrel
     go_wp2
     all_goals
      go_ret
      exact ⟨ret_int HX.out.symm, (Below.refl _ w).alloc (Nat.le_refl _) _⟩
theorem FieldsAt.shape {w : World} {v : Value} {l : List Fd} (h : FieldsAt w v l) : ∃ p cap, v = .slice p l.length cap ∧ l.length ≤ cap ∧ (l.length : Int) ≤ 9223372036854775807 := by
  obtain ⟨p, cap, h1, h2, h3, _⟩ := h
  exact ⟨p, cap, h1, h2, by unfold maxLen at h3; omega⟩
theorem ValsAt.shape {w : World} {v : Value} {l : List Vl} (h : ValsAt w v l) : ∃ p cap, v = .slice p l.length cap ∧ l.length ≤ cap ∧ (l.length : Int) ≤ 9223372036854775807 := by
  obtain ⟨p, cap, h1, h2, h3, _⟩ := h
  exact ⟨p, cap, h1, h2, by unfold maxLen at h3; omega⟩
def fld (t : Ty) (name : ByteArray) : Int × Int × Int :=
  if tchk t ≠ 0 then (0, 0, tchk t) else if fnd name t.fs 0 < 0 then (0, 0, 6)
  else (fnd name t.fs 0, (t.fs.getD (fnd name t.fs 0).toNat ⟨ByteArray.empty, 0⟩).k, 0)
set_option maxHeartbeats 8000000 in
theorem field_any (t : Ty) (v : Value) (name : ByteArray) (w : World) (hv : FieldsAt w v t.fs) :
   Calls Tryz.prog 153 #[.agg #[.string t.s, v], .string name] w fun e w' => e = .returned (.tuple #[.int .i64 (fld t name).1, .int .i64 (fld t name).2.1, .int .i64 (fld t name).2.2]) ∧ Below w.heap.size w w' := by
 obtain ⟨s, fs⟩ := t
 obtain ⟨T, hT⟩ : ∃ T, tchk ⟨s, fs⟩ = T := ⟨_, rfl⟩
 obtain ⟨P, hP⟩ : ∃ P, fnd name fs 0 = P := ⟨_, rfl⟩
 obtain ⟨x, y, z, hR⟩ : ∃ x y z, fld ⟨s, fs⟩ name = (x, y, z) := ⟨_, _, _, rfl⟩
 simp only at hv
 have HV : Hid (FieldsAt w v fs) := hv
 have H1 : Hid (∀ W, Below w.heap.size w W → Calls Tryz.prog 55 #[.agg #[.string s, v]] W fun e w' => e = .returned (.int .i64 T) ∧ Below W.heap.size W w') := fun W hb => by rw [← hT]; exact checkType_any ⟨s, fs⟩ _ _ (HV.out.below hb)
 have H2 : Hid (∀ W, Below w.heap.size w W → Calls Tryz.prog 136 #[v, .string name] W fun e w' => e = .returned (.int .i64 P) ∧ Below W.heap.size W w') := fun W hb => by rw [← hP]; exact find_any _ _ _ _ (HV.out.below hb)
 have HR : Hid ((x, y, z) = if T ≠ 0 then (0, 0, T) else if P < 0 then (0, 0, 6) else (P, (fs.getD P.toNat ⟨ByteArray.empty, 0⟩).k, 0)) := by rw [← hR]; unfold fld; simp only; rw [hT, hP]; exact rfl
 have HPL : Hid (P < 0 ∨ (0 ≤ P ∧ P < fs.length)) := by have := fnd_le name fs 0; rw [hP] at this; simp at this; exact this
 rw [hR]
 obtain ⟨n, hn⟩ : ∃ n, fs.length = n := ⟨_, rfl⟩
 have HN : Hid (fs.length = n) := hn
 obtain ⟨p, cap, hsh, _, _, hfc⟩ := hv
 rw [hn] at hsh
 subst hsh
 have HFC : Hid (0 < fs.length → ∃ g off, p = some ⟨g, off, none⟩ ∧ ∀ j (hj : j < fs.length), g < w.heap.size ∧ w.cell? ⟨g, off + j * 2, none⟩ = some (.string fs[j].s) ∧ w.cell? ⟨g, off + j * 2 + 1, none⟩ = some (.int .i64 fs[j].k)) := hfc
 clear hT hP hR hfc hn
 go_enter Tryz.func153, Tryz.ntmps153
 go_wp2_with fail
 refine (H1.out _ ((Below.refl _ w).alloc (Nat.le_refl _) _)).mono ?_
 rintro e w1 ⟨rfl, hb1⟩
 have HB1 : Hid (Below w.heap.size w w1) := below_trans ((Below.refl _ w).alloc (Nat.le_refl _) (.cells #[.string s, .slice p n cap] 72)) hb1 (by simp)
 have c1 : w1.cell? ⟨w.heap.size, 1, none⟩ = some (.slice p n cap) := (hb1.cell (by simp)).trans (cell_new rfl rfl)
 clear hb1
 by_cases hT0 : T = 0
 . subst hT0
   go_wp2_with fail
   refine (H2.out _ HB1.out).mono ?_
   rintro e w2 ⟨rfl, hb2⟩
   have HB2 : Hid (Below w.heap.size w w2) := below_trans HB1.out hb2 HB1.out.size
   have d1 : w2.cell? ⟨w.heap.size, 1, none⟩ = some (.slice p n cap) := (hb2.cell (World.block_lt_of_cell? _ _ c1)).trans c1
   clear hb2 c1
   by_cases hP0 : P < 0
   . have hr := HR.out
     simp [hP0] at hr
     obtain ⟨rfl, rfl, rfl⟩ := hr
     go_wp2
     go_ret3
     exact ⟨rfl, HB2.out⟩
   . have hpl : 0 ≤ P ∧ P < fs.length := by rcases HPL.out with h | h; exact absurd h hP0; exact h
     obtain ⟨j, hj⟩ : ∃ j : Nat, P = (j : Int) := ⟨P.toNat, by omega⟩
     subst hj
     have hjl : j < fs.length := by omega
     have hr := HR.out
     simp [hP0, List.getElem?_eq_getElem hjl] at hr
     obtain ⟨rfl, hy, rfl⟩ := hr
     obtain ⟨g, off, hg, hcl⟩ := HFC.out (by omega)
     obtain ⟨hgs, c0j, c1j⟩ := hcl j hjl
     subst hg
     rw [← hy] at c1j
     have b1 : w2.cell? ⟨g, off + j * 2 + 1, none⟩ = some (.int .i64 y) := (HB2.out.cell (p := ⟨g, off + j * 2 + 1, none⟩) hgs).trans c1j
     have j1 : (0 : Int) ≤ (j : Int) := by omega
     have j2 : (j : Int) < (n : Int) := by have := HN.out; omega
     have hp0 : decide ((j : Int) < 0) = false := by simp
     clear hcl c0j c1j hgs hy hpl hjl hP0 HR HPL
     go_wp2_with fail
     go_quiet (fail)
     go_wp2
     go_ret3
     exact ⟨rfl, below_trans HB2.out (Go.Joins.below_draws _ _ _) (Nat.le_refl _)⟩
 . have hb1 : (T == 0) = false := by simpa using hT0
   have hb2 : (T != 0) = true := by simpa using hT0
   have hr := HR.out
   simp [hT0] at hr
   obtain ⟨rfl, rfl, rfl⟩ := hr
   clear c1
   go_wp2
   go_ret3
   exact ⟨rfl, HB1.out⟩
end Go.Proofs.YthndlfdbmljkhaaGreatDoor.V4
