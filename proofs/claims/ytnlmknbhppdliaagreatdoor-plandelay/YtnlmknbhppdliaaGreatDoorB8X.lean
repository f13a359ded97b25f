/-
  Close, by the program. Close and Closed, whole. Options: the program. The bounds of options lie within 2^31 of 0, in plain words. Free matrices, by the program and by the reference. The reference: a point lies ahead of another one. The reference's bounds of an option. The reference's bounds of an option. The reference's bounds of an option. Two matrices joined, bound by bound. Both and Either, by the program and by the reference. Both and Either, by the reference. The reference's options: what each of them says is what the program tells. Rows that are the same. The reference's OptionsOf; BoundOptions: the walk. Data that a call has laid in blocks of its own: slices of structs that hold slices.
-/
import Derived.Lib.LazyBuf
import Derived.Maps.AppendAt
import Derived.Laws.OwnMore
import Derived.Below
import Derived.Maps.OwnSet
import Derived.Test.YtnlmknbhppdliaaGreatDoorB8O5
import Derived.Test.YtnlmknbhppdliaaGreatDoorB8A
set_option maxHeartbeats 64000000
namespace Go.Proofs.YtnlmknbhppdliaaGreatDoor.B8
open Go.ChangeShapes Go.WideShapes Go.ChangeAt Go.RowKit Go.Maps
set_option linter.unusedVariables false
set_option linter.unusedSimpArgs false
set_option maxRecDepth 20000
theorem zIR {n t : Nat} {Z : Mx} (hb : Bnd n 8796093022208 Z) (hd : Z t t = 0) (ht : t < n) {a : Nat} (ha : a < n) : zA3 Z t a t = Z a t := by
  have := hb a t ha ht
  unfold zA3; rw [hd]; split <;> omega
theorem zJE {n t : Nat} {Z : Mx} (hb : Bnd n 8796093022208 Z) (hd : Z t t = 0) (ht : t < n) {b : Nat} (hb' : b < n) : zA3 Z t t b = Z t b := by
  have := hb t b ht hb'
  unfold zA3; rw [hd]; split <;> omega
def Prt (Z Q : Mx) (n t i k : Nat) : Prop := ∀ a b, a < n → b < n → Q a b = if a < i ∨ (a = i ∧ b < k) then zA3 Z t a b else Z a b
theorem Prt.put {Z Q : Mx} {n t i k : Nat} (h : Prt Z Q n t i k) {x : Int} (hx : x = zA3 Z t i k) : Prt Z (upd Q i k x) n t i (k + 1) := by
 intro a b ha hb
 unfold upd
 by_cases c : a = i ∧ b = k
 . obtain ⟨rfl, rfl⟩ := c
   rw [if_pos ⟨rfl, rfl⟩, if_pos (.inr ⟨rfl, by omega⟩), hx]
 . rw [if_neg c, h a b ha hb]
   by_cases c2 : a < i ∨ (a = i ∧ b < k)
   . rw [if_pos c2, if_pos (by omega)]
   . rw [if_neg c2, if_neg (by omega)]
theorem Prt.skip {Z Q : Mx} {n t i k : Nat} (h : Prt Z Q n t i k) (hx : Z i k = zA3 Z t i k) : Prt Z Q n t i (k + 1) := by
 intro a b ha hb
 rw [h a b ha hb]
 by_cases c2 : a < i ∨ (a = i ∧ b < k)
 . rw [if_pos c2, if_pos (by omega)]
 . rw [if_neg c2]
   by_cases c : a = i ∧ b = k
   . obtain ⟨rfl, rfl⟩ := c
     rw [if_pos (.inr ⟨rfl, by omega⟩), hx]
   . rw [if_neg (by omega)]
theorem Prt.piv {Z Q : Mx} {n t i k : Nat} (h : Prt Z Q n t i k) (hb : Bnd n 8796093022208 Z) (hd : Z t t = 0) (ht : t < n) {a : Nat} (ha : a < n) : Q a t = Z a t := by
  rw [h a t ha ht]
  split
  . exact zIR hb hd ht ha
  . rfl
theorem Prt.piv2 {Z Q : Mx} {n t i k : Nat} (h : Prt Z Q n t i k) (hb : Bnd n 8796093022208 Z) (hd : Z t t = 0) (ht : t < n) {b : Nat} (hb' : b < n) : Q t b = Z t b := by
  rw [h t b ht hb']
  split
  . exact zJE hb hd ht hb'
  . rfl
theorem zGC (b n cap B t : Nat) (p : Option Addr) (G C : Nat → Nat) (Z : Mx) (w : World) (h : OwnM w B b n (fun _ => n) G C Z) (hp : 0 < n → p = some ⟨b, 0, none⟩) (hn : n ≤ 12) (ht : t < n) (hd : Z t t = 0) (hb : Bnd n 8796093022208 Z) :
  Calls Tryz.prog 122 #[.slice p n cap, .int .i64 (t : Int)] w fun e w' => e = .returned (.tuple #[]) ∧ OwnM w' B b n (fun _ => n) G C (zA3 Z t) ∧ Below B w w' := by
 have HO := hid h
 obtain rfl := hp (by omega)
 have hmx : (n : Int) ≤ 12 := by omega
 have t1 : (0 : Int) ≤ (t : Int) := by omega
 have t2 : (t : Int) < (n : Int) := by omega
 have HD := hid hd
 have HB := hid hb
 clear h hp hd hb
 go_enter Tryz.func122, Tryz.ntmps122
 go_wp2_with fail
 go_loopg [9] n (fun gg io wr => ∃ (i : Nat) (Q : Mx), i ≤ n ∧ gg = n - i ∧ io = .int .i64 (i : Nat) ∧ OwnM wr B b n (fun _ => n) G C Q ∧ Prt Z Q n t i 0 ∧ Below B w wr)
 case atStart => exact ⟨0, Z, by omega, by omega, rfl, HO.out, fun a b _ _ => by rw [if_neg (by omega)], Below.refl _ _⟩
 case round =>
  obtain ⟨i, Q, hi, rfl, rfl, hO1, hQ1, hBr⟩ := hrel
  have HO1 := hid hO1
  have HQ1 := hid hQ1
  have HBR := hid hBr
  clear hO1 hQ1 hBr
  by_cases hin : i < n
  . have i1 : (0 : Int) ≤ (i : Int) := by omega
    have i2 : (i : Int) < (n : Int) := by omega
    obtain ⟨q, t0, ht0⟩ := HO1.out.top i hin
    rw [ht0 (by omega)] at t0
    have hcp := (HO1.out.cp i hin).1
    clear ht0
    obtain ⟨gi, hgi⟩ : ∃ g, G i = g := ⟨_, rfl⟩
    obtain ⟨ci, hci⟩ : ∃ g, C i = g := ⟨_, rfl⟩
    have HGI := hid hgi
    rw [hgi, hci] at t0
    rw [hci] at hcp
    clear hgi hci
    go_wp2_with fail
    clear t0
    go_loopg [15] n (fun gg ko wi => ∃ (k : Nat) (Q : Mx), k ≤ n ∧ gg = n - k ∧ ko = .int .i64 (k : Nat) ∧ OwnM wi B b n (fun _ => n) G C Q ∧ Prt Z Q n t i k ∧ Below B w wi)
    case atStart => exact ⟨0, Q, by omega, by omega, rfl, HO1.out, HQ1.out, HBR.out⟩
    case round =>
     obtain ⟨k, Q2, hk, rfl, rfl, hO2, hQ2, hB2⟩ := hrel
     clear HO1 HQ1 HBR
     have HO2 := hid hO2
     have HQ2 := hid hQ2
     have HB2 := hid hB2
     clear hO2 hQ2 hB2
     by_cases hkn : k < n
     . have k1 : (0 : Int) ≤ (k : Int) := by omega
       have k2 : (k : Int) < (n : Int) := by omega
       obtain ⟨z1, c2, c3, c4, c5, c6⟩ := HO2.out.at3 hin ht hkn
       have hcp2 := (HO2.out.cp t ht).1
       have HST := hid (fun (s : Nat) (x : Int) => (HO2.out.drewN s).set (k := k) hin hkn x)
       have HSE := hid (fun (s : Nat) (x : Int) => (zA8 HB2.out s).setCell (p := ⟨G i, k, none⟩) (HO2.out.gB i hin (by omega)) (.int .i64 x))
       have e1 := HQ2.out.piv HB.out HD.out ht hin
       have e2 := HQ2.out.piv2 HB.out HD.out ht hkn
       have e3 := HQ2.out i k hin hkn
       rw [if_neg (by omega)] at e3
       rw [e1] at c3
       rw [e2] at c4
       rw [e3] at c5
       have b1 := HB.out i t hin ht
       have b2 := HB.out t k ht hkn
       have b3 := HB.out i k hin hkn
       have HSF := hid (show zA3 Z t i k = if Z i t = 1152921504606846976 ∨ Z t k = 1152921504606846976 then Z i k else min (Z i k) (Z i t + Z t k) from rfl)
       obtain ⟨gk, hgk⟩ : ∃ g, G t = g := ⟨_, rfl⟩
       obtain ⟨ck, hck⟩ : ∃ g, C t = g := ⟨_, rfl⟩
       obtain ⟨x1, hx1⟩ : ∃ x, Z i t = x := ⟨_, rfl⟩
       obtain ⟨x2, hx2⟩ : ∃ x, Z t k = x := ⟨_, rfl⟩
       obtain ⟨x3, hx3⟩ : ∃ x, Z i k = x := ⟨_, rfl⟩
       have HX3 := hid hx3
       rw [hgk, hck] at c2
       rw [HGI.out, hx1] at c3
       rw [hgk, hx2] at c4
       rw [HGI.out, hx3] at c5
       rw [HGI.out] at c6 HST HSE
       rw [hck] at hcp2
       rw [hx1] at HSF b1
       rw [hx2] at HSF b2
       rw [hx3] at HSF b3
       clear hgk hck hx1 hx2 hx3 z1 e1 e2 e3
       by_cases q1 : x1 = 1152921504606846976
       . have HNX := hid (HQ2.out.skip (by rw [HX3.out, HSF.out, if_pos (.inl q1)]))
         subst q1
         clear b1 b2 b3
         go_wp2_with fail
         go_roundg (n - (k + 1))
         case rel => exact ⟨k + 1, Q2, by omega, rfl, by go_num, HO2.out, HNX.out, HB2.out⟩
         case measure => omega
       . have d1 : (x1 != 1152921504606846976) = true := by simpa using q1
         by_cases q2 : x2 = 1152921504606846976
         . have HNX := hid (HQ2.out.skip (by rw [HX3.out, HSF.out, if_pos (.inr q2)]))
           subst q2
           clear b1 b2 b3 q1
           go_wp2_with fail
           go_roundg (n - (k + 1))
           case rel => exact ⟨k + 1, Q2, by omega, rfl, by go_num, HO2.out, HNX.out, HB2.out⟩
           case measure => omega
         . have d2 : (x2 != 1152921504606846976) = true := by simpa using q2
           have HSG := hid (show zA3 Z t i k = min x3 (x1 + x2) by rw [HSF.out, if_neg (by omega)])
           have wr1 : IntKind.i64.wrap (x1 + x2) = x1 + x2 := by go_unwrap
           have wr2 : RowKit.wrap64 (x1 + x2) = x1 + x2 := wrap_id (by omega) (by omega)
           clear b1 b2 b3 q1 q2
           by_cases q3 : x1 + x2 < x3
           . have HNX := hid (HQ2.out.put (x := x1 + x2) (by rw [HSG.out]; omega))
             go_wp2_with fail
             go_region
             all_goals
              go_wp2_with fail
              go_roundg (n - (k + 1))
              case rel => exact ⟨k + 1, _, by omega, rfl, by go_num, HST.out _ _, HNX.out, HSE.out _ _⟩
              case measure => omega
           . have q4 : x3 ≤ x1 + x2 := by omega
             have HNX := hid (HQ2.out.put (x := x3) (by rw [HSG.out]; omega))
             go_wp2_with fail
             go_region
             all_goals
              go_wp2_with fail
              go_roundg (n - (k + 1))
              case rel => exact ⟨k + 1, _, by omega, rfl, by go_num, HST.out _ _, HNX.out, HSE.out _ _⟩
              case measure => omega
     . obtain rfl : k = n := by omega
       go_wp2_with fail
       go_roundg (k - (i + 1))
       case rel => exact ⟨i + 1, Q2, by omega, rfl, by go_num, HO2.out, fun a b ha hb => by { rw [HQ2.out a b ha hb]; by_cases c : a < i ∨ (a = i ∧ b < k); { rw [if_pos c, if_pos (by omega)] }; { rw [if_neg c, if_neg (by omega)] } }, HB2.out⟩
       case measure => omega
  . obtain rfl : i = n := by omega
    go_wp2_with fail
    refine bodyPost_end (results_none rfl _ _ _) rfl ?_
    exact ⟨rfl, HO1.out.congr (fun _ _ => rfl) (fun a ha b hb => by rw [HQ1.out a b ha hb, if_pos (.inl ha)]), HBR.out⟩
def Cres (w w' : World) (e : Ending) (n : Nat) (m : Mx) : Prop :=
  (Gd n n m ∧ ∃ V, e = .returned (.tuple #[V, .int .i64 0]) ∧ New w w' V n (fun _ => n) (fw m n)) ∨ (¬ Gd n n m ∧ e = .returned (.tuple #[.slice none 0 0, .int .i64 16]))
theorem closeP_any (v : Value) (n : Nat) (L : Nat → Nat) (m : Mx) (w : World) (h : zA5 w v n L m) (h0 : own n L m = 0) :
  Calls Tryz.prog 79 #[v] w fun e w' => Cres w w' e n m ∧ Below w.heap.size w w' := by
 have HM := hid h
 have HE := hid h0
 obtain ⟨o1, o2, o3, o4, o5⟩ := own_ok h0
 have HL := hid o3
 have HD := hid o4
 have HB := hid o5
 have HN := hid o2
 have hmx : (n : Int) ≤ 12 := by omega
 have HG0 : Hid (Gd n 0 m) := fun s hs i hi => by
  have e : s = 0 := by omega
  subst e
  exact HD.out i hi
 clear h h0 o1 o2 o3 o4 o5
 go_enter Tryz.func79, Tryz.ntmps79
 go_wp2_with fail
 refine (zF4 v n L m _ HM.out).mono ?_
 rw [HE.out]
 rintro e w1 ⟨rfl, hB1⟩
 have HB1 := hid hB1
 clear hB1
 go_wp2_with fail
 refine (zE0 v v n L L m m _ (HM.out.later HB1.out) (HM.out.later HB1.out) HL.out HL.out HN.out).mono ?_
 rintro e w2 ⟨⟨V, rfl, hNew⟩, hB2⟩
 obtain ⟨p3, cap3, b3, G, C, rfl, hp3, hc3, hc4, hO⟩ := hNew.from HB1.out.size
 have HO : Hid (OwnM w2 w.heap.size b3 n (fun _ => n) G C m) := hO
 have HB2 := hid (zAZ HB1.out hB2 (Nat.le_refl _))
 have HP3 := hid hp3
 have HC := hid (And.intro hc3 hc4)
 clear hO hB2 hp3 hc3 hc4 hNew
 go_wp2_with fail
 go_loopg [17] n (fun gg to wr => ∃ t : Nat, t ≤ n ∧ gg = n - t ∧ to = .int .i64 (t : Nat) ∧ OwnM wr w.heap.size b3 n (fun _ => n) G C (fw m t) ∧ Gd n t m ∧ Below w.heap.size w wr)
 case atStart => exact ⟨0, by omega, by omega, rfl, HO.out, HG0.out, HB2.out⟩
 case round =>
  obtain ⟨t, ht, rfl, rfl, hO1, hG1, hBr⟩ := hrel
  have HO1 := hid hO1
  have HG1 := hid hG1
  have HBR := hid hBr
  clear hO1 hG1 hBr
  have t1 : (0 : Int) ≤ (t : Int) := by omega
  by_cases htn : t < n
  . have t2 : (t : Int) < (n : Int) := by omega
    go_wp2_with fail
    refine (zGC b3 n cap3 w.heap.size t p3 G C (fw m t) _ HO1.out HP3.out HN.out htn (HG1.out t (Nat.le_refl _) t htn) (fw_small HN.out HB.out (by omega))).mono ?_
    rintro e w4 ⟨rfl, hO4, hB4⟩
    have HO4 : Hid (OwnM w4 w.heap.size b3 n (fun _ => n) G C (fw m (t + 1))) := hO4
    have HB4 := hid (HBR.out.trans hB4)
    clear hO4 hB4
    go_wp2_with fail
    refine (zJK b3 n cap3 w.heap.size p3 G C (fw m (t + 1)) _ HO4.out HP3.out HN.out).mono ?_
    obtain ⟨r, hr⟩ : ∃ r, ngb (fw m (t + 1)) n = r := ⟨_, rfl⟩
    have HR := hid hr
    rw [hr]
    clear hr
    rintro e w5 ⟨rfl, rfl⟩
    cases r
    . have HG2 : Hid (Gd n (t + 1) m) := fun s hs i hi => by
       by_cases c : s ≤ t
       . exact HG1.out s c i hi
       . obtain rfl : s = t + 1 := by omega
         have h1 := zCA HR.out i hi
         have h2 := fw_mono m (Nat.zero_le (t + 1)) i i
         have h3 : fw m 0 i i = 0 := HD.out i hi
         omega
      go_wp2_with fail
      go_roundg (n - (t + 1))
      case rel => exact ⟨t + 1, by omega, rfl, by go_num, HO4.out, HG2.out, HB4.out⟩
      case measure => omega
    . have HNG : Hid (¬ Gd n n m) := fun hg => by
       obtain ⟨i, h1, h2⟩ := zE6 HR.out
       have := hg (t + 1) (by omega) i h1
       omega
      go_wp2_with fail
      go_ret2
      exact ⟨.inr ⟨HNG.out, rfl⟩, HB4.out⟩
  . obtain rfl : t = n := by omega
    go_wp2_with fail
    go_ret2
    exact ⟨.inl ⟨HG1.out, _, rfl, p3, cap3, b3, G, C, rfl, HP3.out, HC.out.1, HC.out.2, HO1.out⟩, HBR.out⟩
structure Op3 where
  r : Int
  lo : Int
  hi : Int
def OptsAt (w : World) (v : Value) (n : Nat) (o : Nat → Op3) : Prop :=
  ∃ p cap, v = .slice p n cap ∧ n ≤ cap ∧ cap ≤ maxLen ∧ (0 < n → ∃ g off, p = some ⟨g, off, none⟩ ∧ ∀ i, i < n → w.cell? ⟨g, off + i * 3, none⟩ = some (.int .i64 (o i).r) ∧ w.cell? ⟨g, off + i * 3 + 1, none⟩ = some (.int .i64 (o i).lo) ∧ w.cell? ⟨g, off + i * 3 + 2, none⟩ = some (.int .i64 (o i).hi))
def opE (o : Nat → Op3) : Nat → Int
  | 0 => 0
  | i + 1 => if opE o i ≠ 0 then opE o i else optE (o i).r (o i).lo (o i).hi
theorem opE_up {o : Nat → Op3} {i : Nat} (h : opE o i ≠ 0) : ∀ j, i ≤ j → opE o j = opE o i
  | 0, hj => by obtain rfl : i = 0 := by omega
                rfl
  | j + 1, hj => by
    by_cases c : i = j + 1
    . subst c; rfl
    . have := opE_up h j (by omega)
      rw [opE, if_pos (by rw [this]; exact h), this]
theorem zJ3 {o : Nat → Op3} : ∀ {n : Nat}, opE o n = 0 → ∀ i, i < n → optE (o i).r (o i).lo (o i).hi = 0
 | n + 1, h, i, hi => by
  have h0 : opE o n = 0 := by
    by_cases c : opE o n = 0
    . exact c
    . rw [opE, if_pos c] at h; exact absurd h c
  rw [opE, if_neg (by rw [h0]; decide)] at h
  by_cases c : i = n
  . subst c; exact h
  . exact zJ3 h0 i (by omega)
def tzO (o : Op3) : Mx := toldZ (upv o.r.toNat) (upm o.r.toNat) o.lo o.hi
def canB (o : Op3) : Bool := !ngb (fw (tzO o) 4) 4
def opR (o : Nat → Op3) : Nat → Option Mx
 | 0 => none
 | i + 1 => if canB (o i) = true then (match opR o i with
  | none => some (fw (tzO (o i)) 4)
  | some A => some (fun a b => max (A a b) (fw (tzO (o i)) 4 a b))) else opR o i
theorem gd_iff {n : Nat} {m : Mx} (hd : ∀ i, i < n → m i i = 0) : Gd n n m ↔ ngb (fw m n) n = false := by
 constructor
 . intro h
   exact zJ4 fun i hi => by rw [h n (Nat.le_refl _) i hi]; exact Int.le_refl _
 . intro h s hs i hi
   have h1 := zCA h i hi
   have h2 := fw_mono m hs i i
   have h3 := fw_mono m (Nat.zero_le s) i i
   have h4 : fw m 0 i i = 0 := hd i hi
   omega
theorem am_diag {pm : Nat → Nat} {Z : Mx} {p q : Nat} {m : Int} (h : ∀ i, i < 4 → Z i i = 0) (hpq : pm p ≠ pm q) : ∀ i, i < 4 → am pm Z p q m i i = 0 := fun i hi => by
  unfold am upd
  rw [if_neg (by omega)]
  exact h i hi
theorem am_bnd {pm : Nat → Nat} {Z : Mx} {p q : Nat} {m : Int} (h : Bnd 4 1073741824 Z) (h1 : -1073741824 ≤ m) (h2 : m ≤ 1073741824) (hp : pm p < 4) (hq : pm q < 4) : Bnd 4 1073741824 (am pm Z p q m) := fun a b ha hb => by
 unfold am upd
 split
 . have := h (pm p) (pm q) hp hq
   omega
 . exact h a b ha hb
theorem fre_diag : ∀ i, i < 4 → fre i i = 0 := fun i _ => by simp [fre]
theorem fre_bnd : Bnd 4 1073741824 fre := fun a b _ _ => by unfold fre; split <;> omega
def OkZ (Z : Mx) : Prop := (∀ i, i < 4 → Z i i = 0) ∧ Bnd 4 1073741824 Z
theorem zJW {v : Nat} {pm : Nat → Nat} {lo hi : Int} (hv : v = 1 ∨ v = 3 ∨ v = 5 ∨ v = 7 ∨ v = 9 ∨ v = 11 ∨ v = 13) (hlt : ∀ k, k < 4 → pm k < 4) (hne : ∀ p q, p < 4 → q < 4 → p ≠ q → pm p ≠ pm q) (h1 : 0 ≤ lo) (h2 : lo ≤ 1073741824) (h3 : hi = -1 ∨ (lo ≤ hi ∧ hi ≤ 1073741824)) : OkZ (toldZ v pm lo hi) := by
  have D : ∀ (Z : Mx) (p q : Nat) (m : Int), p < 4 → q < 4 → p ≠ q → -1073741824 ≤ m → m ≤ 1073741824 → OkZ Z → OkZ (am pm Z p q m) := fun Z p q m hp hq hpq a b h => ⟨am_diag h.1 (hne p q hp hq hpq), am_bnd h.2 a b (hlt p hp) (hlt q hq)⟩
  have F : OkZ fre := ⟨fre_diag, fre_bnd⟩
  unfold toldZ
  rcases hv with rfl | rfl | rfl | rfl | rfl | rfl | rfl <;> split <;> simp only [tellZ, apF, apT] <;> repeat (first | exact F | (refine D _ _ _ _ (by decide) (by decide) (by decide) (by omega) (by omega) ?_))
theorem pmI_ne : ∀ p q, p < 4 → q < 4 → p ≠ q → pmI p ≠ pmI q := fun p q _ _ h => h
theorem pmS_ne : ∀ p q, p < 4 → q < 4 → p ≠ q → pmS p ≠ pmS q := fun p q hp hq h => by unfold pmS; omega
theorem tz_ok {o : Op3} (h : optE o.r o.lo o.hi = 0) : OkZ (tzO o) := by
 obtain ⟨h1, h2, h3, h4, h5⟩ := zGF h
 unfold tzO
 obtain ⟨rn, hrn⟩ : ∃ rn : Nat, o.r = (rn : Int) := ⟨o.r.toNat, by omega⟩
 rw [hrn, show ((rn : Int)).toNat = rn by omega]
 have b1 : 1 ≤ rn := by omega
 have b2 : rn ≤ 13 := by omega
 unfold upv upm
 by_cases c : rn % 2 = 0
 . rw [if_pos c, if_pos c]
   exact zJW (by omega) zBE pmS_ne h3 h4 h5
 . rw [if_neg c, if_neg c]
   exact zJW (by omega) zBD pmI_ne h3 h4 h5
def Ores (w w' : World) (e : Ending) (n : Nat) (o : Nat → Op3) : Prop :=
  (opE o n ≠ 0 ∧ e = .returned (.tuple #[.slice none 0 0, .int .i64 (opE o n)])) ∨ (opE o n = 0 ∧ opR o n = none ∧ e = .returned (.tuple #[.slice none 0 0, .int .i64 16])) ∨
  (opE o n = 0 ∧ ∃ R V, opR o n = some R ∧ e = .returned (.tuple #[V, .int .i64 0]) ∧ New w w' V 4 (fun _ => 4) R)
def Kept (w wr : World) (V : Value) (r : Option Mx) : Prop :=
  match r with
  | none => V = .slice none 0 0
  | some R => New w wr V 4 (fun _ => 4) R
theorem Kept.later {w wr w' : World} {V : Value} {r : Option Mx} (h : Kept w wr V r) (hb : Below wr.heap.size wr w') : Kept w w' V r := by
  cases r with
  | none => exact h
  | some R => exact New.later (h : New w wr V 4 (fun _ => 4) R) hb
theorem own_of4 {Z : Mx} (h : OkZ Z) : own 4 (fun _ => 4) Z = 0 := by
 have hb : Bnd 4 2147483648 Z := h.2.mono (by decide)
 have hR : ∀ j, j ≤ 4 → owR 4 Z j = 0 := by
  intro j
  induction j with
  | zero => intro _; rfl
  | succ j ih => intro hj; rw [owR, ih (by omega), if_neg (by decide), if_neg (by rw [h.1 j (by omega)]; decide), if_pos (zFF fun k hk => hb j k (by omega) hk)]
 unfold own
 rw [chk_sq (by decide) (fun _ _ => rfl) (fun i hi k hk => by have := hb i k hi hk; unfold inb; omega), if_neg (by decide), hR 4 (Nat.le_refl _)]
theorem zC1 {w w' : World} {V : Value} {R : Mx} (h : New w w' V 4 (fun _ => 4) R) : ∃ b cap, V = .slice (some ⟨b, 0, none⟩) 4 cap := by
  obtain ⟨p, cap, b, G, C, rfl, h1, _⟩ := h
  rw [h1 (by decide)]
  exact ⟨b, cap, rfl⟩
theorem options_any (v : Value) (n : Nat) (o : Nat → Op3) (w : World) (h : OptsAt w v n o) (ht : Tab w) :
  Calls Tryz.prog 118 #[v] w fun e w' => Ores w w' e n o ∧ Below w.heap.size w w' := by
 have HOP := hid h
 have HT := hid ht
 obtain ⟨p, cap, rfl, hl, hc, hp⟩ := h
 have hmx : (n : Int) ≤ 9223372036854775807 := by unfold maxLen at hc; omega
 have HP : Hid (0 < n → ∃ g off, p = some ⟨g, off, none⟩ ∧ ∀ i, i < n → w.cell? ⟨g, off + i * 3, none⟩ = some (.int .i64 (o i).r) ∧ w.cell? ⟨g, off + i * 3 + 1, none⟩ = some (.int .i64 (o i).lo) ∧ w.cell? ⟨g, off + i * 3 + 2, none⟩ = some (.int .i64 (o i).hi)) := hp
 have E1 : ∀ w, (binOp .eql 130 (.slice none 0 0) (.slice none 0 0)).run Tryz.prog w = .ok (.bool true) w := fun w => run_eql_slice_nil w _ _ _ _ _ Tryz.underlying130
 have E2 : ∀ b cap w, (binOp .eql 130 (.slice (some ⟨b, 0, none⟩) 4 cap) (.slice none 0 0)).run Tryz.prog w = .ok (.bool false) w := fun b cap w => run_eql_slice_nil w _ _ _ _ _ Tryz.underlying130
 clear hp hl hc ht
 go_enter Tryz.func118, Tryz.ntmps118
 go_wp2_with fail
 go_loopg [14] n (fun gg io wr => ∃ i : Nat, i ≤ n ∧ gg = n - i ∧ io = .int .i64 (i : Nat) ∧ opE o i = 0 ∧ Below w.heap.size w wr)
 case atStart => exact ⟨0, by omega, by omega, rfl, rfl, Below.refl _ _⟩
 case round =>
  obtain ⟨i, hi, rfl, rfl, hf, hBr⟩ := hrel
  have HF := hid hf
  have HBR := hid hBr
  clear hf
  have i1 : (0 : Int) ≤ (i : Int) := by omega
  by_cases hin : i < n
  . have i2 : (i : Int) < (n : Int) := by omega
    obtain ⟨g, off, rfl, hrd⟩ := HP.out (by omega)
    obtain ⟨e1, e2, e3⟩ := hrd i hin
    have a1 := (hBr.cell (p := ⟨g, off + i * 3, none⟩) (World.block_lt_of_cell? _ _ e1)).trans e1
    have a2 := (hBr.cell (p := ⟨g, off + i * 3 + 1, none⟩) (World.block_lt_of_cell? _ _ e2)).trans e2
    have a3 := (hBr.cell (p := ⟨g, off + i * 3 + 2, none⟩) (World.block_lt_of_cell? _ _ e3)).trans e3
    have HS := hid (show opE o (i + 1) = optE (o i).r (o i).lo (o i).hi by rw [opE, HF.out, if_neg (by decide)])
    have HUP : Hid (∀ x, opE o (i + 1) = x → x ≠ 0 → opE o n = x) := fun x hx h0 => by rw [opE_up (by rw [hx]; exact h0) n (by omega), hx]
    generalize (o i).r = r at *
    generalize (o i).lo = lo at *
    generalize (o i).hi = hh at *
    obtain ⟨c, hc⟩ : ∃ c, optE r lo hh = c := ⟨_, rfl⟩
    have HC := hid hc
    rw [hc] at HS
    clear hrd e1 e2 e3 hBr hc
    go_wp2_with fail
    refine (opt_any r lo hh _).mono ?_
    rw [HC.out]
    rintro e w2 ⟨rfl, hB2⟩
    have HB2 := hid (zAZ (HBR.out.alloc HBR.out.size _) hB2 (Nat.le_refl _))
    clear hB2
    by_cases h0 : c = 0
    . subst h0
      go_wp2_with fail
      go_roundg (n - (i + 1))
      case rel => exact ⟨i + 1, by omega, rfl, by go_num, HS.out, HB2.out⟩
      case measure => omega
    . have d : (c != 0) = true := by simpa using h0
      have HR := hid (HUP.out c HS.out h0)
      have H0 := hid h0
      clear h0
      go_wp2_with fail
      go_ret2
      exact ⟨.inl ⟨by rw [HR.out]; exact H0.out, by rw [HR.out]; rfl⟩, HB2.out⟩
  . obtain rfl : i = n := by omega
    have HAL := hid (zJ3 HF.out)
    obtain ⟨wo, hwo⟩ : ∃ wo, wo = wr := ⟨_, rfl⟩
    rw [← hwo] at HBR ⊢
    clear hBr hwo
    go_wp2_with fail
    go_loopg [7, 26] i (fun gg ao jo wr => ∃ j : Nat, j ≤ i ∧ gg = i - j ∧ jo = .int .i64 (j : Nat) ∧ Kept w wr ao (opR o j) ∧ Below w.heap.size w wr)
    case atStart => exact ⟨0, by omega, by omega, rfl, rfl, HBR.out⟩
    case round =>
      obtain ⟨j, hj, rfl, rfl, hK, hBr⟩ := hrel
      clear HBR
      have HBR := hid hBr
      have HK := hid hK
      clear hK
      have j1 : (0 : Int) ≤ (j : Int) := by omega
      by_cases hjn : j < i
      . have j2 : (j : Int) < (i : Int) := by omega
        obtain ⟨g, off, rfl, hrd⟩ := HP.out (by omega)
        obtain ⟨e1, e2, e3⟩ := hrd j hjn
        have a1 := (hBr.cell (p := ⟨g, off + j * 3, none⟩) (World.block_lt_of_cell? _ _ e1)).trans e1
        have a2 := (hBr.cell (p := ⟨g, off + j * 3 + 1, none⟩) (World.block_lt_of_cell? _ _ e2)).trans e2
        have a3 := (hBr.cell (p := ⟨g, off + j * 3 + 2, none⟩) (World.block_lt_of_cell? _ _ e3)).trans e3
        have hok := HAL.out j hjn
        have HZ := hid (tz_ok hok)
        obtain ⟨b1, b2, b3, b4, b5⟩ := zGF hok
        obtain ⟨rn, hrn⟩ : ∃ rn : Nat, (o j).r = (rn : Int) := ⟨(o j).r.toNat, by omega⟩
        have HTZ := hid (show tzO (o j) = toldZ (upv rn) (upm rn) (o j).lo (o j).hi by unfold tzO; rw [hrn, show ((rn : Int)).toNat = rn by omega])
        have HRB := hid (show 1 ≤ rn ∧ rn ≤ 13 by omega)
        have HLB := hid (And.intro b3 b4)
        rw [hrn] at a1
        have HOW := hid (own_of4 HZ.out)
        have HGI := hid (gd_iff (n := 4) HZ.out.1)
        have HNX := hid (show opR o (j + 1) = if canB (o j) = true then (match opR o j with | none => some (fw (tzO (o j)) 4) | some A => some (fun a b => max (A a b) (fw (tzO (o j)) 4 a b))) else opR o j from rfl)
        have HCB := hid (show canB (o j) = !ngb (fw (tzO (o j)) 4) 4 from rfl)
        generalize (o j).lo = lo at *
        generalize (o j).hi = hh at *
        generalize tzO (o j) = Z at *
        generalize canB (o j) = cb at *
        clear hrd e1 e2 e3 hok b1 b2 b3 b4 b5 hrn
        have HTB := hid ((HT.out.later hBr).later (zAI wr (.cells #[.int .i64 (rn : Int), .int .i64 lo, .int .i64 hh] 63)))
        have HBA := hid (HBR.out.alloc HBR.out.size (.cells #[.int .i64 (rn : Int), .int .i64 lo, .int .i64 hh] 63))
        have HBN := hid (zAI wr (.cells #[.int .i64 (rn : Int), .int .i64 lo, .int .i64 hh] 63))
        clear hBr
        go_wp2_with fail
        refine (told_any rn lo hh _ HTB.out HRB.out.1 HRB.out.2 HLB.out.1 HLB.out.2).mono ?_
        rw [← HTZ.out]
        rintro e w2 ⟨⟨V1, rfl, hN1⟩, hB2⟩
        have HN1 := hid hN1.mat
        have HB2 := hid (zAZ HBA.out hB2 (Nat.le_refl _))
        have HD2 := hid (zAZ HBN.out hB2 (Nat.le_refl _))
        clear hN1 hB2
        go_wp2_with fail
        refine (closeP_any V1 4 (fun _ => 4) Z _ HN1.out HOW.out).mono ?_
        rintro e w3 ⟨hC, hB3⟩
        have HB3 := hid (zAZ HB2.out hB3 (Nat.le_refl _))
        have HD3 := hid (zAZ HD2.out hB3 (Nat.le_refl _))
        rcases hC with ⟨hg, V2, rfl, hN2⟩ | ⟨hg, rfl⟩
        . have HCT : Hid (cb = true) := by show cb = true; rw [HCB.out, HGI.out.1 hg]; rfl
          have HN2 := hid (hN2.from (w0 := w) HB2.out.size)
          obtain ⟨bb, cc, rfl⟩ := zC1 hN2
          clear hg hN2 hB3
          cases hR : opR o j with
          | none =>
           have hV := HK.out
           rw [hR] at hV
           obtain rfl : _ = Value.slice none 0 0 := hV
           have HR := hid hR
           clear hR HK
           go_wp2_with fail
           refine (zBW _ _ 4 (fun _ => 4) (fun _ => 4) (fw Z 4) (fw Z 4) _ HN2.out.mat HN2.out.mat (fun _ _ => rfl) (fun _ _ => rfl) (by decide)).mono ?_
           rintro e w4 ⟨⟨V3, rfl, hN3⟩, hB4⟩
           have HN3 := hid ((hN3.from (w0 := w) HB3.out.size).congr (M := fun _ => 4) (Y := fw Z 4) (fun _ _ => rfl) (fun a _ b _ => by show max (fw Z 4 a b) (fw Z 4 a b) = _; omega))
           have HB4 := hid (zAZ HB3.out hB4 (Nat.le_refl _))
           clear hN3 hB4
           go_wp2_with fail
           go_roundg (i - (j + 1))
           case rel => exact ⟨j + 1, by omega, rfl, by go_num, by rw [HNX.out, if_pos HCT.out, HR.out]; exact HN3.out, HB4.out⟩
           case measure => omega
          | some R =>
           have hV := HK.out
           rw [hR] at hV
           obtain ⟨b0, c0, rfl⟩ := zC1 hV
           have HV : Hid (New w wr (.slice (some ⟨b0, 0, none⟩) 4 c0) 4 (fun _ => 4) R) := hV
           have HR := hid hR
           clear hR HK hV
           go_wp2_with fail
           refine (zBW _ _ 4 (fun _ => 4) (fun _ => 4) R (fw Z 4) _ (HV.out.mat.later HD3.out) HN2.out.mat (fun _ _ => rfl) (fun _ _ => rfl) (by decide)).mono ?_
           rintro e w4 ⟨⟨V3, rfl, hN3⟩, hB4⟩
           have HN3 := hid (hN3.from (w0 := w) HB3.out.size)
           have HB4 := hid (zAZ HB3.out hB4 (Nat.le_refl _))
           clear hN3 hB4
           go_wp2_with fail
           go_roundg (i - (j + 1))
           case rel => exact ⟨j + 1, by omega, rfl, by go_num, by rw [HNX.out, if_pos HCT.out, HR.out]; exact HN3.out, HB4.out⟩
           case measure => omega
        . have HCF : Hid (cb = false) := by
           show cb = false
           rw [HCB.out]
           cases hn : ngb (fw Z 4) 4 with
           | true => rfl
           | false => exact absurd (HGI.out.2 hn) hg
          have HK2 : Hid (Kept w w3 _ (opR o j)) := HK.out.later HD3.out
          clear hg hB3
          go_wp2_with fail
          go_roundg (i - (j + 1))
          case rel => exact ⟨j + 1, by omega, rfl, by go_num, by rw [HNX.out, if_neg (by rw [HCF.out]; decide)]; exact HK2.out, HB3.out⟩
          case measure => omega
      . obtain rfl : j = i := by omega
        cases hR : opR o j with
        | none =>
          have hV := HK.out
          rw [hR] at hV
          obtain rfl : _ = Value.slice none 0 0 := hV
          have HR := hid hR
          clear hR hBr HK
          go_wp2_with fail
          go_ret2
          exact ⟨.inr (.inl ⟨HF.out, HR.out, rfl⟩), HBR.out⟩
        | some R =>
          have hV := HK.out
          rw [hR] at hV
          obtain ⟨b, cap2, rfl⟩ := zC1 hV
          have HV : Hid (New w wr (.slice (some ⟨b, 0, none⟩) 4 cap2) 4 (fun _ => 4) R) := hV
          have HR := hid hR
          clear hR hBr HK hV
          go_wp2_with fail
          go_ret2
          exact ⟨.inr (.inr ⟨HF.out, R, _, HR.out, rfl, HV.out⟩), HBR.out⟩
end Go.Proofs.YtnlmknbhppdliaaGreatDoor.B8
namespace Go.Proofs.YtnlmknbhppdliaaGreatDoor.B8
set_option linter.unusedVariables false
set_option linter.unusedSimpArgs false
set_option maxRecDepth 20000
abbrev Ub := Nat → Nat → Option Nat
def uS (U : Ub) (t : Nat) : Ub := fun a b => match U a t, U t b with
 | some x, some y => (match U a b with
  | none => some (x + y)
  | some u => some (min u (x + y)))
 | _, _ => U a b
def uF (U : Ub) : Nat → Ub
  | 0 => U
  | t + 1 => uS (uF U t) t
def Uab (U : Ub) (Z : Mx) : Prop := ∀ a b, a < 4 → b < 4 → (U a b = none → Z a b = 1152921504606846976) ∧ ∀ k, U a b = some k → Z a b ≠ 1152921504606846976 ∧ Z a b ≤ (k : Int) * 1073741824
theorem uS_ab {U : Ub} {Z : Mx} {t : Nat} (ht : t < 4) (hb : Bnd 4 8796093022208 Z) (h : Uab U Z) : Uab (uS U t) (zA3 Z t) := by
 intro a b ha hb'
 have b1 := hb a b ha hb'
 have b2 := hb a t ha ht
 have b3 := hb t b ht hb'
 obtain ⟨h1, h1'⟩ := h a b ha hb'
 obtain ⟨h2, h2'⟩ := h a t ha ht
 obtain ⟨h3, h3'⟩ := h t b ht hb'
 unfold uS zA3
 cases e2 : U a t with
 | none =>
  rw [if_pos (.inl (h2 e2))]
  exact ⟨h1, h1'⟩
 | some x =>
  cases e3 : U t b with
  | none =>
   rw [if_pos (.inr (h3 e3))]
   exact ⟨h1, h1'⟩
  | some y =>
   obtain ⟨n2, l2⟩ := h2' x e2
   obtain ⟨n3, l3⟩ := h3' y e3
   rw [if_neg (by omega)]
   cases e1 : U a b with
   | none =>
    have q := h1 e1
    refine ⟨fun c => by simp at c, fun k hk => ?_⟩
    obtain rfl : x + y = k := by simpa using hk
    constructor <;> omega
   | some u =>
    obtain ⟨n1, l1⟩ := h1' u e1
    refine ⟨fun c => by simp at c, fun k hk => ?_⟩
    obtain rfl : min u (x + y) = k := by simpa using hk
    constructor <;> omega
theorem uF_ab {U : Ub} {Z : Mx} (hb : Bnd 4 1073741824 Z) (h : Uab U Z) : ∀ t, t ≤ 4 → Uab (uF U t) (fw Z t)
  | 0, _ => h
  | t + 1, ht => uS_ab (by omega) (fw_small (n := 4) (by decide) (hb.mono (by decide)) (by omega)) (uF_ab hb h t (by omega))
abbrev Lb := Nat → Nat → Nat × Nat
def lS (U : Ub) (L : Lb) (t : Nat) : Lb := fun a b => if a = b then (0, 0) else if a = t ∨ b = t ∨ U a t = none ∨ U t b = none then L a b else (max (L a b).1 ((L a t).1 + (L t b).1), max (L a b).2 ((L a t).2 + (L t b).2))
def lF (U : Ub) (L : Lb) : Nat → Lb
  | 0 => L
  | t + 1 => lS (uF U t) (lF U L t) t
def Lab (L : Lb) (Z : Mx) : Prop := ∀ a b, a < 4 → b < 4 → -(((L a b).1 : Int) * 1073741824 + ((L a b).2 : Int)) ≤ Z a b
theorem lS_ab {U : Ub} {L : Lb} {Z : Mx} {t : Nat} (ht : t < 4) (hu : Uab U Z) (hd : ∀ i, i < 4 → Z i i = 0) (hd' : ∀ i, i < 4 → zA3 Z t i i = 0) (hb : Bnd 4 8796093022208 Z) (h : Lab L Z) : Lab (lS U L t) (zA3 Z t) := by
 intro a b ha hb'
 have h1 := h a b ha hb'
 have h2 := h a t ha ht
 have h3 := h t b ht hb'
 have b1 := hb a b ha hb'
 unfold lS
 by_cases c : a = b
 . subst c
   rw [if_pos rfl, hd' a ha]
   simp
 . rw [if_neg c]
   by_cases c2 : a = t ∨ b = t ∨ U a t = none ∨ U t b = none
   . rw [if_pos c2]
     unfold zA3
     rcases c2 with rfl | rfl | c2 | c2
     . have := hd a ha
       rw [this]
       split <;> omega
     . have := hd b hb'
       rw [this]
       split <;> omega
     . rw [if_pos (.inl ((hu a t ha ht).1 c2))]
       exact h1
     . rw [if_pos (.inr ((hu t b ht hb').1 c2))]
       exact h1
   . rw [if_neg c2]
     unfold zA3
     split <;> omega
theorem lF_ab {U : Ub} {L : Lb} {Z : Mx} (hb : Bnd 4 1073741824 Z) (hg : Gd 4 4 Z) (hu : Uab U Z) (h : Lab L Z) : ∀ t, t ≤ 4 → Lab (lF U L t) (fw Z t)
  | 0, _ => h
  | t + 1, ht => lS_ab (by omega) (uF_ab hb hu t (by omega)) (hg t (by omega)) (hg (t + 1) ht) (fw_small (n := 4) (by decide) (hb.mono (by decide)) (by omega)) (lF_ab hb hg hu h t (by omega))
def uA (pm : Nat → Nat) (U : Ub) (p q k : Nat) : Ub := fun a b => if a = pm p ∧ b = pm q then (match U (pm p) (pm q) with
  | none => some k
  | some u => some (min u k)) else U a b
def lA (pm : Nat → Nat) (L : Lb) (p q k j : Nat) : Lb := fun a b => if a = pm p ∧ b = pm q then (max (L (pm p) (pm q)).1 k, max (L (pm p) (pm q)).2 j) else L a b
def Ab (U : Ub) (L : Lb) (Z : Mx) : Prop := Uab U Z ∧ Lab L Z
theorem am_ab {pm : Nat → Nat} (hlt : ∀ k, k < 4 → pm k < 4) {U : Ub} {L : Lb} {Z : Mx} {p q : Nat} {m : Int} (ku kl jl : Nat) (hp : p < 4) (hq : q < 4) (h1 : m ≤ (ku : Int) * 1073741824) (h2 : -((kl : Int) * 1073741824 + (jl : Int)) ≤ m) (h3 : m ≤ 1073741824) (h : Ab U L Z) :
   Ab (uA pm U p q ku) (lA pm L p q kl jl) (am pm Z p q m) := by
 obtain ⟨hu, hl⟩ := h
 constructor
 . intro a b ha hb
   unfold uA am upd
   by_cases c : a = pm p ∧ b = pm q
   . rw [if_pos c, if_pos c]
     obtain ⟨g1, g2⟩ := hu (pm p) (pm q) (hlt p hp) (hlt q hq)
     cases e : U (pm p) (pm q) with
     | none =>
      have := g1 e
      refine ⟨fun c => by simp at c, fun k hk => ?_⟩
      obtain rfl : ku = k := by simpa using hk
      constructor <;> omega
     | some u =>
      obtain ⟨g3, g4⟩ := g2 u e
      refine ⟨fun c => by simp at c, fun k hk => ?_⟩
      obtain rfl : min u ku = k := by simpa using hk
      constructor <;> omega
   . rw [if_neg c, if_neg c]
     exact hu a b ha hb
 . intro a b ha hb
   unfold lA am upd
   by_cases c : a = pm p ∧ b = pm q
   . rw [if_pos c, if_pos c]
     have := hl (pm p) (pm q) (hlt p hp) (hlt q hq)
     show -(((max (L (pm p) (pm q)).1 kl : Nat) : Int) * 1073741824 + ((max (L (pm p) (pm q)).2 jl : Nat) : Int)) ≤ _
     omega
   . rw [if_neg c, if_neg c]
     exact hl a b ha hb
def uE : Ub := fun a b => if a = b then some 0 else none
def lE : Lb := fun _ _ => (0, 0)
theorem fre_ab : Ab uE lE fre := by
 constructor
 . intro a b ha hb
   unfold uE fre
   by_cases c : a = b
   . rw [if_pos c, if_pos c]
     exact ⟨fun c => by simp at c, fun k hk => by obtain rfl : 0 = k := (by simpa using hk); constructor <;> decide⟩
   . rw [if_neg c, if_neg c]
     exact ⟨fun _ => rfl, fun k hk => by simp at hk⟩
 . intro a b ha hb
   unfold lE fre
   show -(((0 : Nat) : Int) * 1073741824 + ((0 : Nat) : Int)) ≤ _
   split <;> omega
def ulA (pm : Nat → Nat) (S : Ub × Lb) (p q ku kl jl : Nat) : Ub × Lb := (uA pm S.1 p q ku, lA pm S.2 p q kl jl)
def tellS (v : Nat) (pm : Nat → Nat) (S : Ub × Lb) : Ub × Lb :=
  if v = 1 then (ulA pm S 1 2 0 0 1)
  else if v = 3 then (ulA pm (ulA pm (ulA pm (ulA pm S 1 2 0 0 0) 2 1 0 0 0) 0 2 0 0 1) 1 3 0 0 1)
  else if v = 5 then (ulA pm (ulA pm (ulA pm S 0 2 0 0 1) 2 1 0 0 1) 1 3 0 0 1)
  else if v = 7 then (ulA pm (ulA pm (ulA pm S 0 2 0 0 0) 2 0 0 0 0) 1 3 0 0 1)
  else if v = 9 then (ulA pm (ulA pm S 2 0 0 0 1) 1 3 0 0 1)
  else if v = 11 then (ulA pm (ulA pm (ulA pm S 2 0 0 0 1) 1 3 0 0 0) 3 1 0 0 0)
  else (ulA pm (ulA pm (ulA pm (ulA pm S 0 2 0 0 0) 2 0 0 0 0) 1 3 0 0 0) 3 1 0 0 0)
def zHJ (v : Nat) (pm : Nat → Nat) (op : Bool) : Ub × Lb :=
  if op = true then ulA pm (tellS v pm (ulA pm (ulA pm (uE, lE) 0 1 0 0 0) 2 3 0 0 0)) (apF v) (apT v) 0 1 0
  else ulA pm (ulA pm (tellS v pm (ulA pm (ulA pm (uE, lE) 0 1 0 0 0) 2 3 0 0 0)) (apF v) (apT v) 0 1 0) (apT v) (apF v) 1 0 0
def Ab2 (S : Ub × Lb) (Z : Mx) : Prop := Ab S.1 S.2 Z
theorem zIC {v : Nat} {pm : Nat → Nat} {lo hi : Int} (hv : v = 1 ∨ v = 3 ∨ v = 5 ∨ v = 7 ∨ v = 9 ∨ v = 11 ∨ v = 13) (hlt : ∀ k, k < 4 → pm k < 4) (h1 : 0 ≤ lo) (h2 : lo ≤ 1073741824) (h3 : hi = -1 ∨ (lo ≤ hi ∧ hi ≤ 1073741824)) : Ab2 (zHJ v pm (decide (hi = -1))) (toldZ v pm lo hi) := by
  have D : ∀ (S : Ub × Lb) (Z : Mx) (p q : Nat) (m : Int) (ku kl jl : Nat), p < 4 → q < 4 → m ≤ (ku : Int) * 1073741824 → -((kl : Int) * 1073741824 + (jl : Int)) ≤ m → m ≤ 1073741824 → Ab2 S Z → Ab2 (ulA pm S p q ku kl jl) (am pm Z p q m) := fun S Z p q m ku kl jl hp hq a b c h => am_ab hlt ku kl jl hp hq a b c h
  have F : Ab2 (uE, lE) fre := fre_ab
  unfold toldZ zHJ
  rcases hv with rfl | rfl | rfl | rfl | rfl | rfl | rfl <;> by_cases c : hi = -1 <;> simp only [c, decide_true, decide_false, if_true, if_false, Bool.false_eq_true] <;> simp only [tellZ, tellS, apF, apT] <;> repeat (first | exact F | (refine D _ _ _ _ _ _ _ _ (by decide) (by decide) (by omega) (by omega) (by omega) ?_))
def okS (S : Ub × Lb) : Bool := (List.range 4).all fun a => (List.range 4).all fun b => (match uF S.1 4 a b with
  | none => true
  | some k => decide (k ≤ 2)) && decide ((lF S.1 S.2 4 a b).1 ≤ 1) && decide ((lF S.1 S.2 4 a b).2 ≤ 1000)
theorem ok_all : ([1, 3, 5, 7, 9, 11, 13].all fun v => [true, false].all fun op => okS (zHJ v pmI op) && okS (zHJ v pmS op)) = true := by decide +kernel
theorem zJY {S : Ub × Lb} {Z : Mx} (hb : Bnd 4 1073741824 Z) (hg : Gd 4 4 Z) (h : Ab2 S Z) (ho : okS S = true) : Bnd 4 2147483648 (fw Z 4) := by
 intro a b ha hb'
 have e := List.all_eq_true.1 (List.all_eq_true.1 ho a (List.mem_range.2 ha)) b (List.mem_range.2 hb')
 simp only [Bool.and_eq_true, decide_eq_true_eq] at e
 obtain ⟨⟨e1, e2⟩, e3⟩ := e
 obtain ⟨u1, u2⟩ := uF_ab hb h.1 4 (Nat.le_refl _) a b ha hb'
 have l1 := lF_ab hb hg h.1 h.2 4 (Nat.le_refl _) a b ha hb'
 cases c : uF S.1 4 a b with
 | none => exact .inl (u1 c)
 | some k =>
  rw [c] at e1
  have e1 : k ≤ 2 := by simpa using e1
  obtain ⟨u3, u4⟩ := u2 k c
  right
  omega
theorem tz_bnd {o : Op3} (h : optE o.r o.lo o.hi = 0) (hc : canB o = true) : (∀ i, i < 4 → fw (tzO o) 4 i i = 0) ∧ Bnd 4 2147483648 (fw (tzO o) 4) := by
 have hk := tz_ok h
 have hg : Gd 4 4 (tzO o) := (gd_iff hk.1).2 (by unfold canB at hc; simpa using hc)
 refine ⟨fun i hi => hg 4 (Nat.le_refl _) i hi, ?_⟩
 obtain ⟨h1, h2, h3, h4, h5⟩ := zGF h
 obtain ⟨rn, hrn⟩ : ∃ rn : Nat, o.r = (rn : Int) := ⟨o.r.toNat, by omega⟩
 have b1 : 1 ≤ rn := by omega
 have b2 : rn ≤ 13 := by omega
 have key : ∀ v, v ∈ [1, 3, 5, 7, 9, 11, 13] → ∀ op : Bool, okS (zHJ v pmI op) = true ∧ okS (zHJ v pmS op) = true := fun v hv op => by
   have e := List.all_eq_true.1 (List.all_eq_true.1 ok_all v hv) op (by cases op <;> simp)
   simpa using e
 have hz : tzO o = toldZ (upv rn) (upm rn) o.lo o.hi := by unfold tzO; rw [hrn]; rfl
 rw [hz] at hk hg ⊢
 unfold upv upm at hk hg ⊢
 by_cases c : rn % 2 = 0
 . rw [if_pos c, if_pos c] at hk hg ⊢
   exact zJY hk.2 hg (zIC (by omega) zBE h3 h4 h5) (key _ (by simp; omega) _).2
 . rw [if_neg c, if_neg c] at hk hg ⊢
   exact zJY hk.2 hg (zIC (by omega) (fun k hk => hk) h3 h4 h5) (key _ (by simp; omega) _).1
theorem opR_own {o : Nat → Op3} : ∀ {n : Nat}, (∀ i, i < n → optE (o i).r (o i).lo (o i).hi = 0) → ∀ R, opR o n = some R → (∀ i, i < 4 → R i i = 0) ∧ Bnd 4 2147483648 R
 | 0, _, R, h => by simp [opR] at h
 | n + 1, ha, R, h => by
  have ih := opR_own (o := o) (n := n) (fun i hi => ha i (by omega))
  unfold opR at h
  by_cases c : canB (o n) = true
  . rw [if_pos c] at h
    obtain ⟨d1, d2⟩ := tz_bnd (ha n (by omega)) c
    cases e : opR o n with
    | none =>
     rw [e] at h
     obtain rfl := Option.some.inj h
     exact ⟨d1, d2⟩
    | some A =>
     rw [e] at h
     obtain rfl := Option.some.inj h
     obtain ⟨g1, g2⟩ := ih A e
     refine ⟨fun i hi => by show max (A i i) _ = 0; rw [g1 i hi, d1 i hi]; rfl, fun a b ha hb => ?_⟩
     have q1 := g2 a b ha hb
     have q2 := d2 a b ha hb
     show max (A a b) (fw (tzO (o n)) 4 a b) = 1152921504606846976 ∨ (-2147483648 ≤ max (A a b) (fw (tzO (o n)) 4 a b) ∧ max (A a b) (fw (tzO (o n)) 4 a b) ≤ 2147483648)
     omega
  . rw [if_neg c] at h
    exact ih R h
end Go.Proofs.YtnlmknbhppdliaaGreatDoor.B8
namespace Go.Proofs.YtnlmknbhppdliaaGreatDoor.B8
open Go.ChangeShapes Go.WideShapes Go.ChangeAt Go.RowKit Go.Maps
set_option linter.unusedVariables false
set_option linter.unusedSimpArgs false
set_option maxRecDepth 20000
theorem freeP_any (n : Nat) (w : World) (hn : n ≤ 12) :
  Calls Tryz.prog 73 #[.int .i64 (n : Int)] w fun e w' => (∃ V, e = .returned (pairV V 0) ∧ New w w' V n (fun _ => n) fre) ∧ Below w.heap.size w w' := by
 have HN := hid hn
 have q1 : ¬ (n : Int) < 0 := by omega
 have q2 : ¬ (12 : Int) < (n : Int) := by omega
 clear hn
 go_enter Tryz.func73, Tryz.ntmps73
 go_wp2_with fail
 refine (zAW n _ HN.out).mono ?_
 rintro e w1 ⟨⟨V, rfl, hN⟩, hB⟩
 have HNW := hid hN
 have HB := hid hB
 clear hN hB
 go_wp2_with fail
 go_ret2
 exact ⟨⟨_, rfl, HNW.out⟩, HB.out⟩
end Go.Proofs.YtnlmknbhppdliaaGreatDoor.B8
namespace Go.Proofs.YtnlmknbhppdliaaGreatDoor
open Go.RowKit Go.Maps
set_option linter.unusedVariables false
set_option linter.unusedSimpArgs false
inductive Dat where
  | lit (v : Value)
  | row (e z : Nat) (l : List (List Dat))
def nilV : Value := .slice none 0 0
theorem zBH {w : World} {base : Nat} {e : TypeId} {size : Nat} {v : Value} {n : Nat} {xs : List Value} (h : w.ownsRow base e size v n xs) {i : Nat} (hi : v.ownBlock = some i) : base ≤ i ∧ i < w.heap.size := by
 rcases h.2 with ⟨rfl, _⟩ | ⟨g, cap, cur, rfl, h1, h2, _⟩
 . simp [Value.ownBlock] at hi
 . simp [Value.ownBlock] at hi
   subst hi
   exact ⟨h1, (Array.getElem?_eq_some_iff.1 h2).1⟩
theorem zH4 {w w' : World} {base : Nat} {e : TypeId} {size : Nat} {v : Value} {n : Nat} {xs : List Value} (h : w.ownsRow base e size v n xs) (hb : ∀ i, v.ownBlock = some i → w'.heap[i]? = w.heap[i]?) : w'.ownsRow base e size v n xs := by
  refine ⟨h.1, ?_⟩
  rcases h.2 with h2 | ⟨g, cap, cur, rfl, h1, h2, h3⟩
  . exact Or.inl h2
  . exact Or.inr ⟨g, cap, cur, rfl, h1, (hb g rfl).trans h2, h3⟩
structure Fr (X : Nat → Prop) (w w' : World) : Prop where
  os : w'.os = w.os
  tape : w'.tape = w.tape
  output : w'.output = w.output
  size : w.heap.size ≤ w'.heap.size
  block : ∀ k, k < w.heap.size → ¬ X k → w'.heap[k]? = w.heap[k]?
theorem Fr.refl (X : Nat → Prop) (w : World) : Fr X w w := ⟨rfl, rfl, rfl, Nat.le_refl _, fun _ _ _ => rfl⟩
theorem Fr.trans {X : Nat → Prop} {a b c : World} (h : Fr X a b) (k : Fr X b c) : Fr X a c :=
  ⟨k.os.trans h.os, k.tape.trans h.tape, k.output.trans h.output, Nat.le_trans h.size k.size, fun i hi hx => (k.block i (Nat.lt_of_lt_of_le hi h.size) hx).trans (h.block i hi hx)⟩
theorem Fr.then {X Y : Nat → Prop} {a b c : World} (h : Fr X a b) (k : Fr Y b c) (hy : ∀ i, Y i → X i ∨ a.heap.size ≤ i) : Fr X a c :=
  ⟨k.os.trans h.os, k.tape.trans h.tape, k.output.trans h.output, Nat.le_trans h.size k.size, fun i hi hx => (k.block i (Nat.lt_of_lt_of_le hi h.size) fun q => by rcases hy i q with c | c <;> first | exact hx c | omega).trans (h.block i hi hx)⟩
theorem Fr.setCell {X : Nat → Prop} {a w : World} (h : Fr X a w) {p : Addr} (hp : X p.block ∨ a.heap.size ≤ p.block) (u : Value) : Fr X a (w.setCell p u) :=
  ⟨h.os, h.tape, h.output, by simpa [World.setCell] using h.size, fun k hk hx => (Below.heap_setCell _ _ _ _ (by rintro rfl; rcases hp with c | c <;> first | exact hx c | omega)).trans (h.block k hk hx)⟩
theorem Fr.grown {X : Nat → Prop} {a w w' : World} {row : Option Nat} (h : Fr X a w) (hg : w.grownBy w' row) (hr : ∀ k, row = some k → X k ∨ a.heap.size ≤ k) : Fr X a w' :=
  ⟨hg.os.trans h.os, hg.tape.trans h.tape, hg.output.trans h.output, Nat.le_trans h.size hg.size, fun i hi hx => (hg.block i (Nat.lt_of_lt_of_le hi h.size) fun q => by rcases hr i q.symm with c | c <;> first | exact hx c | omega).trans (h.block i hi hx)⟩
theorem Fr.of_below {X : Nat → Prop} {w w' : World} (h : Below w.heap.size w w') : Fr X w w' := ⟨h.os, h.tape, h.output, h.size, fun k hk _ => h.block k hk⟩
end Go.Proofs.YtnlmknbhppdliaaGreatDoor
