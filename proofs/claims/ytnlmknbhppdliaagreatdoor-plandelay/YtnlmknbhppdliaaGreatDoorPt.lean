/-
  The bounds of a rule, by times that keep to them. What a type's events may be needed for: one need more. Fit. What the document says of values of a type. Events: CheckEvent, and what the document says of an event. What the document says of an event. Events that are only read; when conditions hold, in plain words. The value that a side stands for, by the program. A region that draws its order, in which a row is appended to, and what is made of it is stored last. A scene's side of another when, by WhenAt. Does a condition hold, by the program. What comes of itself: ways by types, closed one type after the other, are ways by rules. Rules, one by one, by the program.
-/
import Derived.Test.YtnlmknbhppdliaaGreatDoorPh
import Derived.Test.YtnlmknbhppdliaaGreatDoorV4H
import Derived.Test.YtnlmknbhppdliaaGreatDoorDp
import Derived.Test.YtnlmknbhppdliaaGreatDoorRc
import Derived.Test.YtnlmknbhppdliaaGreatDoorRb
set_option maxHeartbeats 64000000
namespace Go.Proofs.YtnlmknbhppdliaaGreatDoor.Chk
open B8 (Mx OwnM New zA5 lowZ leaZ greZ neeZ Bnd Gd fw Cls)
set_option linter.unusedVariables false
set_option linter.unusedSimpArgs false
set_option maxRecDepth 20000
namespace PT
open B8
theorem pot_cls {n : Nat} (t : Nat → Int) : Cls n n (fun i j => t i - t j) := fun i k j _ _ _ _ _ => by
  show t i - t j ≤ (t i - t k) + (t k - t j)
  omega
theorem pot_gd {n : Nat} {t : Nat → Int} {m : Mx} (hn : n ≤ 12) (hb : Bnd n 2147483648 m) (hd : ∀ i, i < n → m i i = 0) (hm : ∀ a b, a < n → b < n → t a - t b ≤ m a b) : Gd n n m := fun s hs i hi => by
  have h1 := cls_le hn hb (pot_cls t) hm s hs i i hi hi
  have h2 := fw_mono m (Nat.zero_le s) i i
  have h3 : fw m 0 i i = 0 := hd i hi
  have h4 : (fun i j => t i - t j) i i = t i - t i := rfl
  omega
end PT
theorem zIN (m : Mx) (i k : Nat) (x : Int) (a b : Nat) : lowZ m i k x a b ≤ m a b := by
  unfold lowZ B8.upd
  split
  . rename_i c; obtain ⟨rfl, rfl⟩ := c; exact Int.min_le_left _ _
  . exact Int.le_refl _
theorem lowZ_at (m : Mx) (i k : Nat) (x : Int) : lowZ m i k x i k ≤ x := by
  unfold lowZ B8.upd
  rw [if_pos ⟨rfl, rfl⟩]
  exact Int.min_le_right _ _
theorem lowZ_ge {m : Mx} {i k : Nat} {x q : Int} {a b : Nat} (h : q ≤ m a b) (hx : a = i → b = k → q ≤ x) : q ≤ lowZ m i k x a b := by
  unfold lowZ B8.upd
  split
  . rename_i c; obtain ⟨rfl, rfl⟩ := c; have := hx rfl rfl; omega
  . exact h
theorem zIK (pm : Nat → Nat) (R : Mx) (i : Nat) (m : Mx) (a b : Nat) : ∀ j, lwc pm R i j m a b ≤ m a b
  | 0 => Int.le_refl _
  | j + 1 => Int.le_trans (zIN _ _ _ _ _ _) (zIK pm R i m a b j)
theorem lwc_at (pm : Nat → Nat) (R : Mx) (i : Nat) (m : Mx) : ∀ j k, k < j → lwc pm R i j m (pm i) (pm k) ≤ R i k
 | 0, k, h => absurd h (by omega)
 | j + 1, k, h => by
  by_cases c : k = j
  . subst c; exact lowZ_at _ _ _ _
  . exact Int.le_trans (zIN _ _ _ _ _ _) (lwc_at pm R i m j k (by omega))
theorem lwr_le (pm : Nat → Nat) (R : Mx) (m : Mx) (a b : Nat) : ∀ i, lwr pm R i m a b ≤ m a b
  | 0 => Int.le_refl _
  | i + 1 => Int.le_trans (zIK _ _ _ _ _ _ _) (lwr_le pm R m a b i)
theorem lwr_at (pm : Nat → Nat) (R : Mx) (m : Mx) (k : Nat) (hk : k < 4) : ∀ I i, i < I → lwr pm R I m (pm i) (pm k) ≤ R i k
 | 0, i, h => absurd h (by omega)
 | I + 1, i, h => by
  by_cases c : i = I
  . subst c; exact lwc_at _ _ _ _ _ _ hk
  . exact Int.le_trans (zIK _ _ _ _ _ _ _) (lwr_at pm R m k hk I i (by omega))
theorem lwc_ge {pm : Nat → Nat} {R : Mx} {i : Nat} {m : Mx} {t : Nat → Int} {a b : Nat} (h : t a - t b ≤ m a b) : ∀ j, (∀ k, k < j → t (pm i) - t (pm k) ≤ R i k) → t a - t b ≤ lwc pm R i j m a b
  | 0, _ => h
  | j + 1, hR => lowZ_ge (lwc_ge h j fun k hk => hR k (by omega)) fun ea eb => by rw [ea, eb]; exact hR j (by omega)
theorem lwr_ge {pm : Nat → Nat} {R : Mx} {m : Mx} {t : Nat → Int} {a b : Nat} (h : t a - t b ≤ m a b) : ∀ I, (∀ i, i < I → ∀ k, k < 4 → t (pm i) - t (pm k) ≤ R i k) → t a - t b ≤ lwr pm R I m a b
  | 0, _ => h
  | I + 1, hR => lwc_ge (lwr_ge h I fun i hi => hR i (by omega)) 4 (hR I (by omega))
theorem lk1_le {sp : List Pt} {k : Lk} {m M : Mx} (e : lk1 sp k m = some M) (a b : Nat) : M a b ≤ m a b := by
 unfold lk1 at e
 split at e
 . cases e; exact Int.le_refl _
 . split at e
   . cases e
   . cases e; exact lwr_le _ _ _ _ _ _
theorem lks_le {sp : List Pt} : ∀ {ks : List Lk} {m M : Mx}, lks sp ks m = some M → ∀ a b, M a b ≤ m a b
 | [], m, M, e, a, b => by cases e; exact Int.le_refl _
 | k :: r, m, M, e, a, b => by
  rw [lks] at e
  split at e
  . cases e
  . rename_i X hX; exact Int.le_trans (lks_le e a b) (lk1_le hX a b)
theorem lks_at {sp : List Pt} : ∀ {ks : List Lk} {m M : Mx}, lks sp ks m = some M → ∀ k, k ∈ ks → ∀ l r : Nat, ptq sp k.l = (l : Int) → ptq sp k.r = (r : Int) → ∃ R, B8.opR (opZ k.o) k.o.length = some R ∧ ∀ i, i < 4 → ∀ j, j < 4 → M (pm4 l r i) (pm4 l r j) ≤ R i j
 | [], m, M, e, k, hk, _, _, _, _ => by cases hk
 | x :: rr, m, M, e, k, hk, l, r, hl, hr => by
  rw [lks] at e
  split at e
  . cases e
  . rename_i X hX
    rcases List.mem_cons.1 hk with rfl | hk
    . unfold lk1 at hX
      rw [if_neg (by omega)] at hX
      cases hR : B8.opR (opZ k.o) k.o.length with
      | none => rw [hR] at hX; cases hX
      | some R =>
       rw [hR, hl, hr] at hX
       simp only [Int.toNat_natCast, Option.some.injEq] at hX
       subst hX
       exact ⟨R, rfl, fun i hi j hj => Int.le_trans (lks_le e _ _) (lwr_at _ _ _ _ hj 4 i hi)⟩
    . exact lks_at e k hk l r hl hr
theorem lks_ge {sp : List Pt} {t : Nat → Int} : ∀ {ks : List Lk} {m : Mx}, (∀ a b, a < 2 * sp.length → b < 2 * sp.length → t a - t b ≤ m a b) → (∀ k, k ∈ ks → ∀ l r : Nat, ptq sp k.l = (l : Int) → ptq sp k.r = (r : Int) → ∃ R, B8.opR (opZ k.o) k.o.length = some R ∧ ∀ i, i < 4 → ∀ j, j < 4 → t (pm4 l r i) - t (pm4 l r j) ≤ R i j) →
  ∃ M, lks sp ks m = some M ∧ ∀ a b, a < 2 * sp.length → b < 2 * sp.length → t a - t b ≤ M a b
 | [], m, h, _ => ⟨m, rfl, h⟩
 | k :: rr, m, h, hk => by
  obtain ⟨X, hX, h2⟩ : ∃ X, lk1 sp k m = some X ∧ ∀ a b, a < 2 * sp.length → b < 2 * sp.length → t a - t b ≤ X a b := by
   unfold lk1
   by_cases c : ptq sp k.l < 0 ∨ ptq sp k.r < 0
   . rw [if_pos c]; exact ⟨m, rfl, h⟩
   . rw [if_neg c]
     obtain ⟨l, hl, el, _⟩ := zCJ (sp := sp) (nm := k.l) (by omega)
     obtain ⟨r, hr, er, _⟩ := zCJ (sp := sp) (nm := k.r) (by omega)
     obtain ⟨R, hR, hq⟩ := hk k (List.mem_cons_self ..) l r el er
     rw [hR, el, er]
     exact ⟨_, rfl, fun a b ha hb => lwr_ge (h a b ha hb) 4 hq⟩
  rw [lks, hX]
  exact lks_ge h2 fun x hx => hk x (List.mem_cons_of_mem _ hx)
theorem rmx_le {ws sp : List Pt} {ks : List Lk} {F : Mx} (hs : 2 * sp.length ≤ 12) (hw : Wok ws) (hl : Lok sp ks) (e : rmx ws sp ks = some F) : ∃ M, lks sp ks (bas ws) = some M ∧ Cls (2 * sp.length) (2 * sp.length) F ∧ (∀ a b, F a b ≤ M a b) ∧ ∀ i, i < 2 * sp.length → F i i = 0 := by
 have hd := (zEU hs hw hl e).2
 unfold rmx at e
 cases hM : lks sp ks (bas ws) with
 | none => rw [hM] at e; cases e
 | some M =>
  rw [hM] at e
  have e' : (if B8.ngb (fw M (2 * sp.length)) (2 * sp.length) = false then some (fw M (2 * sp.length)) else none) = some F := e
  have hm := zFD hl (zGV _ hw) hM
  by_cases c : B8.ngb (fw M (2 * sp.length)) (2 * sp.length) = false
  . rw [if_pos c] at e'
    cases e'
    exact ⟨M, rfl, B8.fw_cls hs hm.2 (Nat.le_refl _) ((B8.gd_iff hm.1).2 c), fun a b => B8.fw_mono M (Nat.zero_le _) a b, hd⟩
  . rw [if_neg c] at e'; cases e'
theorem rmx_ge {ws sp : List Pt} {ks : List Lk} {t : Nat → Int} (hs : 2 * sp.length ≤ 12) (hw : Wok ws) (hl : Lok sp ks) (h : ∀ a b, a < 2 * sp.length → b < 2 * sp.length → t a - t b ≤ bas ws a b) (hk : ∀ k, k ∈ ks → ∀ l r : Nat, ptq sp k.l = (l : Int) → ptq sp k.r = (r : Int) → ∃ R, B8.opR (opZ k.o) k.o.length = some R ∧ ∀ i, i < 4 → ∀ j, j < 4 → t (pm4 l r i) - t (pm4 l r j) ≤ R i j) :
  ∃ F, rmx ws sp ks = some F ∧ ∀ a b, a < 2 * sp.length → b < 2 * sp.length → t a - t b ≤ F a b := by
 obtain ⟨M, hM, hq⟩ := lks_ge h hk
 have hm := zFD hl (zGV _ hw) hM
 have hg := PT.pot_gd hs hm.2 hm.1 hq
 refine ⟨fw M (2 * sp.length), ?_, fun a b ha hb => B8.cls_le hs hm.2 (PT.pot_cls t) hq _ (Nat.le_refl _) a b ha hb⟩
 unfold rmx
 rw [hM]
 show (if B8.ngb (fw M (2 * sp.length)) (2 * sp.length) = false then some (fw M (2 * sp.length)) else none) = _
 rw [if_pos ((B8.gd_iff hm.1).1 hg)]
theorem zJA (o : Op3) : B8.opR (opZ [o]) 1 = if B8.canB (qo o) = true then some (fw (B8.tzO (qo o)) 4) else none := rfl
theorem opR_le {o : Op3} {R : Mx} (e : B8.opR (opZ [o]) 1 = some R) (i j : Nat) : R i j ≤ B8.tzO (qo o) i j := by
  rw [zJA] at e
  split at e
  . cases e; exact B8.fw_mono _ (Nat.zero_le _) i j
  . cases e
theorem opR_ge {o : Op3} (ho : B8.optE o.r o.lo o.hi = 0) {t : Nat → Int} (h : ∀ i j, i < 4 → j < 4 → t i - t j ≤ B8.tzO (qo o) i j) : ∃ R, B8.opR (opZ [o]) 1 = some R ∧ ∀ i, i < 4 → ∀ j, j < 4 → t i - t j ≤ R i j := by
  have hz := B8.tz_ok (o := qo o) ho
  have hg := PT.pot_gd (by decide) (hz.2.mono (by decide)) hz.1 h
  refine ⟨fw (B8.tzO (qo o)) 4, ?_, fun i hi j hj => B8.cls_le (by decide) (hz.2.mono (by decide)) (PT.pot_cls t) h _ (Nat.le_refl _) i j hi hj⟩
  rw [zJA, if_pos (show B8.canB (qo o) = true by unfold B8.canB; rw [(B8.gd_iff hz.1).1 hg]; rfl)]
end Go.Proofs.YtnlmknbhppdliaaGreatDoor.Chk
namespace Go.Proofs.YtnlmknbhppdliaaGreatDoor.Chk
open Go.ChangeShapes Go.WideShapes Go.ChangeAt Go.RowKit Go.Maps
open B8 (Mx OwnM New zA5)
set_option linter.unusedVariables false
set_option linter.unusedSimpArgs false
set_option maxRecDepth 20000
theorem eqTn_any (tn nm : ByteArray) (p : Option Addr) (n c b : Nat) (w : World) (h : w.cell? ⟨b, 0, none⟩ = some (.string nm)) : Calls Tryz.prog 31 #[.agg #[.string tn, .slice p n c], .pointer (some ⟨b, 0, none⟩)] w fun e w' => e = .returned (.bool (seq tn nm)) ∧ Below w.heap.size w w' := by
  have hb := World.block_lt_of_cell? _ _ h
  have h' : (w.alloc (.cells #[.string tn, .slice p n c] 59)).cell? ⟨b, 0, none⟩ = some (.string nm) := (((Below.refl w.heap.size w).alloc (Nat.le_refl _) _).cell (p := ⟨b, 0, none⟩) hb).trans h
  unfold seq
  go_enter Tryz.func31, Tryz.ntmps31
  go_wp2_with fail
  go_ret
  exact ⟨rfl, (Below.refl _ _).alloc (Nat.le_refl _) _⟩
theorem zGU (ts : List Tp) (v : Value) (nm : ByteArray) (b : Nat) (w : World) (h : Rd w (.row 59 2 (ts.map encY)) v) (hn : w.cell? ⟨b, 0, none⟩ = some (.string nm)) :
  Calls Tryz.prog 30 #[v, .func (.func 31) #[] #[.pointer (some ⟨b, 0, none⟩)]] w fun e w' => e = .returned (.int .i64 (tyq ts nm)) ∧ Below w.heap.size w w' := by
 obtain ⟨p, cap, rfl, hmx, hat⟩ := zAK lenY h
 have HAT : Hid (At encY 2 w p ts) := hat
 obtain ⟨n, hnl⟩ : ∃ n, ts.length = n := ⟨_, rfl⟩
 have HN := hid hnl
 have HNM := hid hn
 rw [hnl] at hmx ⊢
 clear h hat hnl hn
 go_enter Tryz.func30, Tryz.ntmps30
 go_wp2_with fail
 go_loopg [8] (n + 1) (fun gg i wr => ∃ k : Nat, k ≤ n ∧ gg = n + 1 - k ∧ i = .int .i64 (k : Nat) ∧ (∀ (j : Nat) (hj : j < ts.length), j < k → seq ts[j].n nm = false) ∧ Below w.heap.size w wr)
 case atStart => exact ⟨0, by omega, by omega, rfl, fun j _ h => by omega, Below.refl _ _⟩
 case round =>
  obtain ⟨k, hk, rfl, rfl, hno, hB⟩ := hrel
  have HB := hid hB
  by_cases hlt : k < n
  . have hkc : k < ts.length := by have := HN.out; omega
    obtain ⟨g, off, rfl, hrd⟩ := HAT.out (by omega)
    obtain ⟨us, r1, o1⟩ := hrd wr hB k hkc
    obtain ⟨fv, z1, o2⟩ := rdY o1
    obtain ⟨fp, fn, fc, rfl⟩ := zAC o2
    rw [z1] at r1
    have c0 : wr.cell? ⟨g, off + k * 2, none⟩ = some (.string ts[k].n) := by simpa using r1 0 _ rfl
    have c1 : wr.cell? ⟨g, off + k * 2 + 1, none⟩ = some (.slice fp fn fc) := r1 1 _ rfl
    have HCM := hid (eqTn_any ts[k].n nm fp fn fc b wr ((hB.cell (p := ⟨b, 0, none⟩) (World.block_lt_of_cell? _ _ HNM.out)).trans HNM.out))
    have HNO := hid hno
    obtain ⟨q, hq⟩ : ∃ q, seq ts[k].n nm = q := ⟨_, rfl⟩
    have HQ := hid hq
    rw [hq] at HCM
    have HQ2 : Hid (∀ x, x = ts[k].n → seq x nm = q) := fun x hx => by rw [hx]; exact HQ.out
    obtain ⟨tn, htn⟩ : ∃ tn, ts[k].n = tn := ⟨_, rfl⟩
    have HQK : Hid (seq ts[k].n nm = q) := HQ.out
    rw [htn] at c0 HCM
    clear htn HQ HQ2
    have i1 : (0 : Int) ≤ (k : Int) := by omega
    have i2 : (k : Int) < (n : Int) := by omega
    clear hno hB hrd o1 o2 z1 r1 hq
    cases q with
    | true =>
     go_wp2_with (go_at_call 31; refine HCM.out.mono ?_; rintro e w2 ⟨rfl, hb2⟩; have HB2 := hid (zAA HB.out hb2 HB.out.size); clear hb2)
     go_ret
     exact ⟨zAG (by show (k : Int) = ixq _ _ _; rw [zCX (q := fun t : Tp => seq t.n nm) ts 0 k hkc (fun j hj => HNO.out j (by omega) hj) (by exact HQK.out)]; simp), HB2.out⟩
    | false =>
     go_wp2_with (go_at_call 31; refine HCM.out.mono ?_; rintro e w2 ⟨rfl, hb2⟩; have HB2 := hid (zAA HB.out hb2 HB.out.size); clear hb2)
     go_roundg (n + 1 - (k + 1))
     case rel =>
      refine ⟨k + 1, by omega, rfl, by go_num, fun j hj hjk => ?_, HB2.out⟩
      by_cases c : j < k
      . exact HNO.out j hj c
      . obtain rfl : j = k := by omega
        exact HQK.out
     case measure => omega
  . obtain rfl : k = n := by omega
    have HR := hid (show tyq ts nm = -1 from zCB _ _ (fun x hx => by
     obtain ⟨j, hj, rfl⟩ := List.getElem_of_mem hx
     exact hno j hj (by have := HN.out; omega)))
    clear hno hB
    go_wp2_with fail
    go_ret
    exact ⟨zAG HR.out.symm, HB.out⟩
def rz (ts : List Tp) (nm : ByteArray) (x : Int) (z : Nat → Int) : Nat → Int := fun i => if (i : Int) = tyq ts nm then max (z i) x else z i
theorem op_max2 {o : Oper} {a : Act} {w : World} {K : Act → World → Prop} {Q : Exit → Act → World → Prop} (s u : Tmp) (ho : o.op = .call { callee := .builtin .max, args := #[.tmp s, .tmp u], argTypes := #[3, 3] }) (y v : Int) (hx : a.eval (.tmp s) = .int .i64 y) (hu : a.eval (.tmp u) = .int .i64 v)
   (hk : K (a.put o.dst (.int .i64 (max y v))) w) : Oper.wp Tryz.prog o a w K Q := by
 refine zAM (.int .i64 (max y v)) ?_ hk
 have h9 : a.tmps[s]?.getD undef = .int .i64 y := by simpa [Act.eval] using hx
 have h8 : a.tmps[u]?.getD undef = .int .i64 v := by simpa [Act.eval] using hu
 unfold execOp
 simp only [ho]
 by_cases c : y < v
 . have e1 : max y v = v := by omega
   rw [e1]
   go_simp
 . have c2 : v ≤ y := by omega
   have e1 : max y v = y := by omega
   rw [e1]
   go_simp
theorem tyq_lt {ts : List Tp} {nm : ByteArray} (h : 0 ≤ tyq ts nm) : ∃ k : Nat, k < ts.length ∧ tyq ts nm = (k : Int) := by
  rcases zBF (q := fun t : Tp => seq t.n nm) ts 0 with e | ⟨k, hk, e, _⟩
  . exact absurd (show tyq ts nm < 0 by unfold tyq; rw [e]; decide) (by omega)
  . exact ⟨k, hk, by unfold tyq; rw [e]; simp⟩
theorem fr_then {w W W' : World} {g : Nat} (hb : Below w.heap.size w W) (hf : Fr (fun i => i = g) W W') : Fr (fun i => i = g) w W' := (Fr.of_below (X := fun i => i = g) hb).trans hf
theorem zJC (ts : List Tp) (nm : ByteArray) (x : Int) (tv rv : Value) (bB bO g n : Nat) (z : Nat → Int) (w : World) (hT : Rd w (.row 59 2 (ts.map encY)) tv) (hB : w.heap[bB]? = some (.cells #[tv, rv] 28 (0, 0))) (hO : w.heap[bO]? = some (.cells #[.slice (some ⟨g, 0, none⟩) n n] 67 (0, 0))) (hr : w.rowIs g 3 n (fun i => .int .i64 (z i))) (hn : ts.length = n) (hn2 : n ≤ 1000) (h0 : 0 ≤ tyq ts nm) :
  Calls Tryz.prog 29 #[.string nm, .int .i64 x, .pointer (some ⟨bB, 0, none⟩), .pointer (some ⟨bO, 0, none⟩)] w fun e w' => e = .returned (.tuple #[]) ∧ w'.rowIs g 3 n (fun i => .int .i64 (rz ts nm x z i)) ∧ Fr (fun i => i = g) w w' := by
 obtain ⟨k, hk, ek⟩ := tyq_lt h0
 rw [hn] at hk
 obtain ⟨W0, hW0⟩ : ∃ W, w.alloc (.cells #[.string nm] 9) = W := ⟨_, rfl⟩
 have hA0 : Below w.heap.size w W0 := by rw [← hW0]; exact (Below.refl _ _).alloc (Nat.le_refl _) _
 have hN0 : W0.heap[w.heap.size]? = some (.cells #[.string nm] 9 (0, 0)) := by rw [← hW0]; exact heap_alloc_new _ _
 have HIX := hid (zGU ts tv nm w.heap.size W0 (hT.later hA0) (by rw [zAB hN0]; rfl))
 rw [ek] at HIX
 obtain ⟨tp, tn, tc, rfl⟩ := zAC hT
 have cB : W0.cell? ⟨bB, 0, none⟩ = some (.slice tp tn tc) := by rw [zAB ((hA0.block _ (zAE hB)).trans hB)]; rfl
 have HO0 := hid ((hA0.block _ (zAE hO)).trans hO)
 have HR0 := hid (zAJ hr hA0)
 have HA0 := hid hA0
 have HK := hid ek
 have HKN := hid hk
 have i1 : (0 : Int) ≤ (k : Int) := by omega
 have i2 : (k : Int) < (n : Int) := by omega
 clear hT hB hO hr hn hn2 h0 hk ek hN0 hA0
 go_enter Tryz.func29, Tryz.ntmps29
 go_upto_region 1 with fail
 clear hW0
 go_upto_region 2 with (go_at_call 30; refine HIX.out.mono ?_; rintro e w2 ⟨rfl, hb2⟩; have HO2 := hid ((hb2.block _ (zAE HO0.out)).trans HO0.out); have HR2 := hid (zAJ HR0.out hb2); have HB2 := hid (zAA HA0.out hb2 HA0.out.size); clear hb2)
 clear cB
 refine zAT (by kernel_rfl) (fun i9 w9 v => ([(fun w9 v => v = .slice (some ⟨g, 0, none⟩) n n), (fun w9 v => v = .int .i64 (k : Nat)), (fun w9 v => v = .slice (some ⟨g, 0, none⟩) n n), (fun w9 v => v = .int .i64 (k : Nat)), (fun w9 v => v = .pointer (some ⟨g, k, none⟩)), (fun w9 v => v = .int .i64 (z k)), (fun w9 v => v = .int .i64 x), (fun w9 v => v = .int .i64 (max (z k) x)), (fun w9 v => v = .pointer (some ⟨g, k, none⟩))] : List (World → Value → Prop)).getD i9 (fun _ _ => True) w9 v) (fun W => Below w2.heap.size w2 W) 20 9 rfl rfl (by kernel_rfl) (by kernel_rfl) (fun W W' => Below W.heap.size W W') ?hmon (Below.drew (Below.refl _ _)) (zAD.cons ?o0 (zAD.cons ?o1 (zAD.cons ?o2 (zAD.cons ?o3 (zAD.cons ?o4 (zAD.cons ?o5 (zAD.cons ?o6 (zAD.cons ?o7 (zAD.cons ?o8 zAD.nil))))))))) ?hend
 case hmon =>
  intro q W W' v hb h
  rcases q with _ | _ | _ | _ | _ | _ | _ | _ | _ | q
  . exact h
  . exact h
  . exact h
  . exact h
  . exact h
  . exact h
  . exact h
  . exact h
  . exact h
  . exact h
 case o0 =>
  intro a W hB hd ho
  have e3 : a.eval (.tmp 3) = .pointer (some ⟨bO, 0, none⟩) := ho 3 (by kernel_rfl)
  have c9 : W.cell? ⟨bO, 0, none⟩ = some (.slice (some ⟨g, 0, none⟩) n n) := by
    rw [zAB ((hB.block _ (zAE HO2.out)).trans HO2.out)]
    rfl
  exact zAM (.slice (some ⟨g, 0, none⟩) n n) (by unfold execOp; simp only [ev_c, e3]; go_simp) ⟨_, rfl, rfl, hB, Below.refl _ _⟩
 case o1 =>
  intro a W hB hd ho
  have e6 : a.eval (.tmp 6) = .int .i64 (k : Nat) := ho 6 (by kernel_rfl)
  exact zA6 _ (by simp) _ e6 ⟨_, rfl, rfl, hB, Below.refl _ _⟩
 case o2 =>
  intro a W hB hd ho
  have e3 : a.eval (.tmp 3) = .pointer (some ⟨bO, 0, none⟩) := ho 3 (by kernel_rfl)
  have c9 : W.cell? ⟨bO, 0, none⟩ = some (.slice (some ⟨g, 0, none⟩) n n) := by
    rw [zAB ((hB.block _ (zAE HO2.out)).trans HO2.out)]
    rfl
  exact zAM (.slice (some ⟨g, 0, none⟩) n n) (by unfold execOp; simp only [ev_c, e3]; go_simp) ⟨_, rfl, rfl, hB, Below.refl _ _⟩
 case o3 =>
  intro a W hB hd ho
  have e6 : a.eval (.tmp 6) = .int .i64 (k : Nat) := ho 6 (by kernel_rfl)
  exact zA6 _ (by simp) _ e6 ⟨_, rfl, rfl, hB, Below.refl _ _⟩
 case o4 =>
  intro a W hB hd ho
  have e13 : a.eval (.tmp 13) = .slice (some ⟨g, 0, none⟩) n n := hd 2 13 (by kernel_rfl)
  have e14 : a.eval (.tmp 14) = .int .i64 (k : Nat) := hd 3 14 (by kernel_rfl)
  exact zAM (.pointer (some ⟨g, k, none⟩)) (by unfold execOp; simp only [ev_c, e13, e14]; go_simp) ⟨_, rfl, rfl, hB, Below.refl _ _⟩
 case o5 =>
  intro a W hB hd ho
  have e15 : a.eval (.tmp 15) = .pointer (some ⟨g, k, none⟩) := hd 4 15 (by kernel_rfl)
  have c9 : W.cell? ⟨g, k, none⟩ = some (.int .i64 (z k)) := (zAJ HR2.out hB).cell HKN.out
  exact zAM (.int .i64 (z k)) (by unfold execOp; simp only [ev_c, e15]; go_simp) ⟨_, rfl, rfl, hB, Below.refl _ _⟩
 case o6 =>
  intro a W hB hd ho
  have e1 : a.eval (.tmp 1) = .int .i64 x := ho 1 (by kernel_rfl)
  exact zA6 _ (by simp) _ e1 ⟨_, rfl, rfl, hB, Below.refl _ _⟩
 case o7 =>
  intro a W hB hd ho
  have e16 : a.eval (.tmp 16) = .int .i64 (z k) := hd 5 16 (by kernel_rfl)
  have e17 : a.eval (.tmp 17) = .int .i64 x := hd 6 17 (by kernel_rfl)
  exact op_max2 16 17 rfl (z k) x e16 e17 ⟨_, rfl, rfl, hB, Below.refl _ _⟩
 case o8 =>
  intro a W hB hd ho
  have e11 : a.eval (.tmp 11) = .slice (some ⟨g, 0, none⟩) n n := hd 0 11 (by kernel_rfl)
  have e12 : a.eval (.tmp 12) = .int .i64 (k : Nat) := hd 1 12 (by kernel_rfl)
  exact zAM (.pointer (some ⟨g, k, none⟩)) (by unfold execOp; simp only [ev_c, e11, e12]; go_simp) ⟨_, rfl, rfl, hB, Below.refl _ _⟩
 case hend =>
  intro vs W o ho hB hT
  have e0 : vs 0 = .slice (some ⟨g, 0, none⟩) n n := hT 0 (by decide)
  have e1 : vs 1 = .int .i64 (k : Nat) := hT 1 (by decide)
  have e2 : vs 2 = .slice (some ⟨g, 0, none⟩) n n := hT 2 (by decide)
  have e3 : vs 3 = .int .i64 (k : Nat) := hT 3 (by decide)
  have e4 : vs 4 = .pointer (some ⟨g, k, none⟩) := hT 4 (by decide)
  have e5 : vs 5 = .int .i64 (z k) := hT 5 (by decide)
  have e6 : vs 6 = .int .i64 x := hT 6 (by decide)
  have e7 : vs 7 = .int .i64 (max (z k) x) := hT 7 (by decide)
  have e8 : vs 8 = .pointer (some ⟨g, k, none⟩) := hT 8 (by decide)
  cases (show some _ = some o from ho)
  simp only [List.toList_toArray, List.take_succ_cons, List.take_zero, fill, if_true, Act.put, List.setIfInBounds_toArray, List.set_cons_zero, List.set_cons_succ, e0, e1, e2, e3, e4, e5, e6, e7, e8]
  refine zHH _ _ rfl g n k _ (zAJ HR2.out hB) HKN.out (by rfl) (max (z k) x) (by rfl) ?_
  intro W' hrow hf
  have HROW := hid hrow
  have HFF : Hid (Fr (fun i => i = g) w W') := fr_then (zAA HB2.out hB HB2.out.size) hf
  clear hrow hf hB hT e0 e1 e2 e3 e4 e5 e6 e7 e8
  clear vs
  go_wp2_with fail
  refine bodyPost_end (results_none rfl _ _ _) rfl ?_
  refine ⟨rfl, HROW.out.congr (fun i hi => ?_), HFF.out⟩
  show (if i = k then _ else _) = _
  unfold rz
  by_cases c : i = k
  . subst c; rw [if_pos rfl, HK.out, if_pos rfl]
  . rw [if_neg c, HK.out, if_neg (by omega)]
end Go.Proofs.YtnlmknbhppdliaaGreatDoor.Chk
namespace Go.Proofs.YtnlmknbhppdliaaGreatDoor.V4
open Go.ChangeShapes Go.WideShapes Go.ChangeAt Go.RowKit
set_option linter.unusedVariables false
set_option linter.unusedSimpArgs false
set_option maxRecDepth 20000
end Go.Proofs.YtnlmknbhppdliaaGreatDoor.V4
namespace Go.Proofs.YtnlmknbhppdliaaGreatDoor.Chk
open Go.ChangeShapes Go.WideShapes Go.ChangeAt Go.RowKit Go.Maps
set_option linter.unusedVariables false
set_option linter.unusedSimpArgs false
set_option maxRecDepth 20000
def dT : Tp := ⟨txt [], []⟩
theorem getD_lt {α : Type} {l : List α} {i : Nat} (h : i < l.length) (d : α) : l.getD i d = l[i] := by simp [List.getD, List.getElem?_eq_getElem h]
structure Bxs (w0 W : World) (l : List (List Value × TypeId)) : Prop where
  bel : Below w0.heap.size w0 W
  b : ∀ i (hi : i < l.length), W.heap[w0.heap.size + i]? = some (.cells l[i].1.toArray l[i].2 (0, 0))
theorem Bxs.nil (w : World) : Bxs w w [] := ⟨Below.refl _ _, fun i hi => by simp at hi⟩
theorem Bxs.snoc {w0 W : World} {l : List (List Value × TypeId)} (h : Bxs w0 W l) (hs : W.heap.size = w0.heap.size + l.length) (us : List Value) (t : TypeId) : Bxs w0 (W.alloc (.cells us.toArray t)) (l ++ [(us, t)]) := by
 refine ⟨h.bel.alloc h.bel.size _, fun i hi => ?_⟩
 by_cases c : i < l.length
 . rw [Below.heap_alloc _ _ _ (by omega), List.getElem_append_left c]
   exact h.b i c
 . have e : i = l.length := by simp at hi; omega
   subst e
   rw [← hs]
   simpa using heap_alloc_new W (.cells us.toArray t)
theorem Bxs.next {w0 W W' : World} {l : List (List Value × TypeId)} (h : Bxs w0 W l) (hb : Below W.heap.size W W') : Bxs w0 W' l :=
  ⟨zAA h.bel hb h.bel.size, fun i hi => (hb.block _ (zAE (h.b i hi))).trans (h.b i hi)⟩
theorem Bxs.c {w0 W : World} {l : List (List Value × TypeId)} (h : Bxs w0 W l) (i : Nat) (hi : i < l.length) (j : Nat) : W.cell? ⟨w0.heap.size + i, j, none⟩ = l[i].1[j]? := by rw [zAB (h.b i hi)]; simp
theorem bxs2 (w : World) (us vs : List Value) (t u : TypeId) : Bxs w ((w.alloc (.cells us.toArray t)).alloc (.cells vs.toArray u)) [(us, t), (vs, u)] := (((Bxs.nil w).snoc (by simp) us t).snoc (by simp) vs u)
theorem bxs4 (w : World) (us vs ws zs : List Value) (t u x y : TypeId) : Bxs w ((((w.alloc (.cells us.toArray t)).alloc (.cells vs.toArray u)).alloc (.cells ws.toArray x)).alloc (.cells zs.toArray y)) [(us, t), (vs, u), (ws, x), (zs, y)] := ((((Bxs.nil w).snoc (by simp) us t).snoc (by simp) vs u).snoc (by simp) ws x).snoc (by simp) zs y
end Go.Proofs.YtnlmknbhppdliaaGreatDoor.Chk
namespace Go.Proofs.YtnlmknbhppdliaaGreatDoor
open Go.ChangeShapes Go.WideShapes Go.ChangeAt Go.RowKit
set_option linter.unusedVariables false
set_option linter.unusedSimpArgs false
theorem set_c20 {α : Type} (a0 a1 a2 a3 a4 a5 a6 a7 a8 a9 a10 a11 a12 a13 a14 a15 a16 a17 a18 a19 : α) (l : List α) (n : Nat) (v : α) : (a0 :: a1 :: a2 :: a3 :: a4 :: a5 :: a6 :: a7 :: a8 :: a9 :: a10 :: a11 :: a12 :: a13 :: a14 :: a15 :: a16 :: a17 :: a18 :: a19 :: l).set (n + 20) v = a0 :: a1 :: a2 :: a3 :: a4 :: a5 :: a6 :: a7 :: a8 :: a9 :: a10 :: a11 :: a12 :: a13 :: a14 :: a15 :: a16 :: a17 :: a18 :: a19 :: l.set n v := rfl
end Go.Proofs.YtnlmknbhppdliaaGreatDoor
namespace Go.Proofs.YtnlmknbhppdliaaGreatDoor.Chk
open Go.ChangeShapes Go.WideShapes Go.ChangeAt Go.RowKit Go.Maps
set_option linter.unusedVariables false
set_option linter.unusedSimpArgs false
set_option maxRecDepth 20000
/-! Ways of rules: as many steps as there are rules are enough. -/
def gdr (rs : List Rl) (ot : ByteArray) : Nat → Rl → Bool
  | 0, _ => false
  | n + 1, x => !(emp x.e.ty) && (seq x.e.ty ot || cmo rs ot n x.e.ty)
theorem zCG (rs : List Rl) (ot : ByteArray) (n : Nat) (nm : ByteArray) : cmo rs ot n nm = rs.any fun x => spk x.w x.t x.m nm && gdr rs ot n x := by
 cases n with
 | zero => rw [cmo]; symm; rw [List.any_eq_false]; intro x _; simp [gdr]
 | succ n =>
  rw [cmo]
  congr 1
  funext x
  rw [gdr]
  cases emp x.e.ty <;> cases spk x.w x.t x.m nm <;> simp
theorem gdr_step {rs : List Rl} {ot : ByteArray} {a b : Nat} (h : ∀ x, x ∈ rs → gdr rs ot a x = gdr rs ot b x) (x : Rl) : gdr rs ot (a + 1) x = gdr rs ot (b + 1) x := by
 rw [gdr, gdr, zCG, zCG]
 have e : (rs.any fun y => spk y.w y.t y.m x.e.ty && gdr rs ot a y) = (rs.any fun y => spk y.w y.t y.m x.e.ty && gdr rs ot b y) := by
  rw [Bool.eq_iff_iff, List.any_eq_true, List.any_eq_true]
  constructor
  . rintro ⟨y, hy, h1⟩; exact ⟨y, hy, by rw [← h y hy]; exact h1⟩
  . rintro ⟨y, hy, h1⟩; exact ⟨y, hy, by rw [h y hy]; exact h1⟩
 rw [e]
theorem zCP (rs : List Rl) (ot : ByteArray) : ∀ (n : Nat) (x : Rl), gdr rs ot n x = true → gdr rs ot (n + 1) x = true
 | 0, x, h => by simp [gdr] at h
 | n + 1, x, h => by
  rw [gdr] at h ⊢
  rw [Bool.and_eq_true, Bool.or_eq_true] at h ⊢
  refine ⟨h.1, h.2.imp id fun c => ?_⟩
  rw [zCG, List.any_eq_true] at c ⊢
  obtain ⟨y, hy, h1⟩ := c
  rw [Bool.and_eq_true] at h1
  exact ⟨y, hy, by rw [Bool.and_eq_true]; exact ⟨h1.1, zCP rs ot n y h1.2⟩⟩
theorem gdr_le {rs : List Rl} {ot : ByteArray} {a b : Nat} (h : a ≤ b) (x : Rl) (hx : gdr rs ot a x = true) : gdr rs ot b x = true := by
 induction b with
 | zero => rw [show a = 0 by omega] at hx; exact hx
 | succ b ih =>
  by_cases c : a ≤ b
  . exact zCP rs ot b x (ih c)
  . obtain rfl : a = b + 1 := by omega
    exact hx
theorem zGA {rs : List Rl} {ot : ByteArray} {a : Nat} (h : ∀ x, x ∈ rs → gdr rs ot a x = gdr rs ot (a + 1) x) : ∀ (d : Nat) (x : Rl), x ∈ rs → gdr rs ot a x = gdr rs ot (a + d) x
 | 0, x, hx => rfl
 | d + 1, x, hx => by
  have ih := zGA h d
  rw [h x hx]
  exact gdr_step ih x
theorem zFP {α : Type} {p q : α → Bool} : ∀ (l : List α), (∀ x, p x = true → q x = true) → (∃ x, x ∈ l ∧ q x = true ∧ p x = false) → l.countP p < l.countP q
 | [], _, ⟨x, hx, _⟩ => by cases hx
 | y :: r, h, ⟨x, hx, h1, h2⟩ => by
  have hle : r.countP p ≤ r.countP q := List.countP_mono_left fun z _ hz => h z hz
  rw [List.countP_cons, List.countP_cons]
  rcases List.mem_cons.1 hx with rfl | hx
  . rw [if_pos h1, if_neg (by rw [h2]; decide)]; omega
  . have := zFP r h ⟨x, hx, h1, h2⟩
    by_cases c : p y = true
    . rw [if_pos c, if_pos (h y c)]; omega
    . rw [if_neg c]; split <;> omega
theorem zHL (rs : List Rl) (ot : ByteArray) : ∃ n, n ≤ rs.length ∧ ∀ x, x ∈ rs → gdr rs ot n x = gdr rs ot (n + 1) x := by
 refine Classical.byContradiction fun hno => ?_
 have hs : ∀ n, n ≤ rs.length → ∃ x, x ∈ rs ∧ gdr rs ot (n + 1) x = true ∧ gdr rs ot n x = false := fun n hn => by
  refine Classical.byContradiction fun hc => hno ⟨n, hn, fun x hx => ?_⟩
  cases h1 : gdr rs ot n x with
  | true => exact (zCP rs ot n x h1).symm
  | false =>
   cases h2 : gdr rs ot (n + 1) x with
   | false => rfl
   | true => exact absurd ⟨x, hx, h2, h1⟩ hc
 have hcnt : ∀ n, n ≤ rs.length + 1 → n ≤ rs.countP (gdr rs ot n) := fun n => by
  induction n with
  | zero => intro _; omega
  | succ n ih =>
   intro hn
   have h1 := ih (by omega)
   have h2 := zFP rs (zCP rs ot n) (hs n (by omega))
   omega
 have h1 := hcnt (rs.length + 1) (Nat.le_refl _)
 have h2 : rs.countP (gdr rs ot (rs.length + 1)) ≤ rs.length := List.countP_le_length
 omega
theorem zHM (rs : List Rl) (ot nm : ByteArray) (n : Nat) (h : cmo rs ot n nm = true) : cmo rs ot rs.length nm = true := by
  obtain ⟨a, ha, hst⟩ := zHL rs ot
  rw [zCG, List.any_eq_true] at h ⊢
  obtain ⟨x, hx, h1⟩ := h
  rw [Bool.and_eq_true] at h1
  refine ⟨x, hx, ?_⟩
  rw [Bool.and_eq_true]
  refine ⟨h1.1, ?_⟩
  have e1 := zGA hst (rs.length - a) x hx
  have e2 := zGA hst n x hx
  rw [show a + (rs.length - a) = rs.length by omega] at e1
  rw [← e1, e2]
  exact gdr_le (by omega) x h1.2
/-! Ways by types. -/
inductive Wlk (E : Nat → Nat → Prop) : Nat → Nat → Prop
  | one {i j : Nat} (h : E i j) : Wlk E i j
  | cons {i k j : Nat} (h : E i k) (t : Wlk E k j) : Wlk E i j
theorem Wlk.trans {E : Nat → Nat → Prop} {i k j : Nat} (h : Wlk E i k) (t : Wlk E k j) : Wlk E i j := by
  induction h with
  | one h => exact .cons h t
  | cons h _ ih => exact .cons h (ih t)
def Edg (ts : List Tp) (rs : List Rl) (i j : Nat) : Prop :=
  ∃ x, x ∈ rs ∧ emp x.e.ty = false ∧ (∃ p, p ∈ x.w ++ x.t ++ x.m.map Mn.p ∧ tyq ts p.ty = (i : Int)) ∧ tyq ts x.e.ty = (j : Int)
def Rok (ts : List Tp) (x : Rl) : Prop := (∀ p, p ∈ x.w ++ x.t ++ x.m.map Mn.p → ∃ i, ∃ _ : i < ts.length, tyq ts p.ty = (i : Int)) ∧ (emp x.e.ty = false → ∃ i, ∃ _ : i < ts.length, tyq ts x.e.ty = (i : Int))
theorem seq_refl (a : ByteArray) : seq a a = true := by unfold seq; simp
theorem zHD {a b : ByteArray} (h : seq a b = true) : a.toList = b.toList := by simpa [seq] using h
theorem zCO {a b : ByteArray} (h : seq a b = true) : seq b a = true := by have := zHD h; simp [seq, this]
theorem zF5 {a b c : ByteArray} (h : seq a b = true) (k : seq b c = true) : seq a c = true := by have := zHD h; have := zHD k; simp [seq, *]
theorem zB5 (x : Rl) (n : ByteArray) : spk x.w x.t x.m n = true ↔ ∃ p, p ∈ x.w ++ x.t ++ x.m.map Mn.p ∧ seq p.ty n = true := by
 unfold spk
 rw [Bool.or_eq_true, Bool.or_eq_true, List.any_eq_true, List.any_eq_true, List.any_eq_true]
 constructor
 . rintro ((⟨p, hp, h⟩ | ⟨p, hp, h⟩) | ⟨m, hm, h⟩)
   . exact ⟨p, by simp [hp], h⟩
   . exact ⟨p, by simp [hp], h⟩
   . exact ⟨m.p, by simp; exact .inr (.inr ⟨m, hm, rfl⟩), h⟩
 . rintro ⟨p, hp, h⟩
   rw [List.mem_append, List.mem_append] at hp
   rcases hp with (hp | hp) | hp
   . exact .inl (.inl ⟨p, hp, h⟩)
   . exact .inl (.inr ⟨p, hp, h⟩)
   . obtain ⟨m, hm, rfl⟩ := List.mem_map.1 hp
     exact .inr ⟨m, hm, h⟩
theorem zB9 {ts : List Tp} {n : ByteArray} {i : Nat} (hi : i < ts.length) (h : tyq ts n = (i : Int)) : seq ts[i].n n = true := by
 rcases zBF (q := fun t : Tp => seq t.n n) ts 0 with c | ⟨j, hj, c, hq⟩
 . have c0 : tyq ts n = -1 := c
   omega
 . have c0 : tyq ts n = (j : Int) := by show ixq _ _ _ = _; rw [c]; simp
   obtain rfl : i = j := by omega
   exact hq
theorem zFZ {α : Type} {q r : α → Bool} (h : ∀ x, q x = r x) : ∀ (l : List α) (n : Nat), ixq q l n = ixq r l n
  | [], _ => rfl
  | x :: l, n => by rw [ixq, ixq, h x, zFZ h l (n + 1)]
theorem zHZ {a b : ByteArray} (h : seq a b = true) (c : ByteArray) : seq c a = seq c b := by
  have := zHD h
  simp [seq, this]
theorem zFY {ts : List Tp} {a b : ByteArray} (h : seq a b = true) : tyq ts a = tyq ts b := zFZ (q := fun t : Tp => seq t.n a) (r := fun t : Tp => seq t.n b) (fun t => zHZ h t.n) ts 0
def Dst (ts : List Tp) : Prop := ∀ i (hi : i < ts.length), tyq ts ts[i].n = (i : Int)
theorem zJU : ∀ (rest done : List Tp), tks done rest = 0 → ∀ i (hi : i < rest.length), tyq (done ++ rest.take i) rest[i].n < 0
 | [], done, _, i, hi => by simp at hi
 | t :: r, done, h, i, hi => by
  rw [tks] at h
  split at h
  . rename_i c; exact absurd h c
  . split at h
    . omega
    . split at h
      . omega
      . split at h
        . omega
        . rename_i c
          cases i with
          | zero => simpa using c
          | succ i =>
           have := zJU r (done ++ [t]) h i (by simpa using hi)
           simpa using this
theorem zG8 {α : Type} {q : α → Bool} : ∀ (l r : List α) (n : Nat), ixq q l n < 0 → ixq q (l ++ r) n = ixq q r (n + l.length)
 | [], r, n, _ => by simp
 | y :: l, r, n, h => by
  rw [ixq] at h
  by_cases c : q y = true
  . rw [if_pos c] at h; omega
  . rw [if_neg c] at h
    rw [List.cons_append, ixq, if_neg c, zG8 l r (n + 1) h]
    congr 1
    simp; omega
theorem dst_of {ts : List Tp} (h : tks [] ts = 0) : Dst ts := fun i hi => by
  have h1 := zJU ts [] h i hi
  rw [List.nil_append] at h1
  have e : ts = ts.take i ++ ts.drop i := (List.take_append_drop i ts).symm
  have e2 : ts.drop i = ts[i] :: ts.drop (i + 1) := List.drop_eq_getElem_cons hi
  have h2 : tyq ts ts[i].n = ixq (fun t : Tp => seq t.n ts[i].n) (ts.take i ++ ts.drop i) 0 := by rw [List.take_append_drop]; rfl
  rw [h2, zG8 _ _ _ h1, e2, ixq, if_pos (seq_refl _)]
  simp
  omega
theorem wlk_cmo {ts : List Tp} {rs : List Rl} {i j : Nat} (h : Wlk (Edg ts rs) i j) (hj : j < ts.length) (hr : ∀ x, x ∈ rs → Rok ts x) : ∀ (_ : i < ts.length), ∃ n, cmo rs ts[j].n n ts[i].n = true := by
 induction h with
 | @one i j h =>
  intro hi
  obtain ⟨x, hx, he, ⟨p, hp, h1⟩, h2⟩ := h
  refine ⟨1, ?_⟩
  rw [cmo, List.any_eq_true]
  refine ⟨x, hx, ?_⟩
  have a1 : spk x.w x.t x.m ts[i].n = true := (zB5 x _).2 ⟨p, hp, zCO (zB9 hi h1)⟩
  have a2 : seq x.e.ty ts[j].n = true := zCO (zB9 hj h2)
  simp [he, a1, a2]
 | @cons i k j h _ ih =>
  intro hi
  obtain ⟨x, hx, he, ⟨p, hp, h1⟩, h2⟩ := h
  obtain ⟨k', hk', h3⟩ := (hr x hx).2 he
  obtain rfl : k = k' := by omega
  obtain ⟨n, hn⟩ := ih hj hk'
  refine ⟨n + 1, ?_⟩
  rw [cmo, List.any_eq_true]
  refine ⟨x, hx, ?_⟩
  have a1 : spk x.w x.t x.m ts[i].n = true := (zB5 x _).2 ⟨p, hp, zCO (zB9 hi h1)⟩
  have a2 : cmo rs ts[j].n n x.e.ty = true := by
   rw [zCG, List.any_eq_true] at hn ⊢
   obtain ⟨y, hy, h4⟩ := hn
   rw [Bool.and_eq_true] at h4
   refine ⟨y, hy, ?_⟩
   rw [Bool.and_eq_true]
   refine ⟨?_, h4.2⟩
   obtain ⟨p2, hp2, h5⟩ := (zB5 y _).1 h4.1
   exact (zB5 y _).2 ⟨p2, hp2, zF5 h5 (zB9 hk' h2)⟩
  simp [he, a1, a2]
theorem zIW {ts : List Tp} {rs : List Rl} (hd : Dst ts) (hr : ∀ x, x ∈ rs → Rok ts x) {j : Nat} (hj : j < ts.length) : ∀ (n i : Nat) (hi : i < ts.length), cmo rs ts[j].n n ts[i].n = true → Wlk (Edg ts rs) i j
 | 0, i, hi, h => by rw [cmo] at h; cases h
 | n + 1, i, hi, h => by
  rw [cmo, List.any_eq_true] at h
  obtain ⟨x, hx, h⟩ := h
  rw [Bool.and_eq_true, Bool.and_eq_true, Bool.or_eq_true] at h
  obtain ⟨h0, h1, h2⟩ := h
  have he : emp x.e.ty = false := by simpa using h0
  obtain ⟨k, hk, h3⟩ := (hr x hx).2 he
  obtain ⟨p, hp, h4⟩ := (zB5 x _).1 h1
  have hed : Edg ts rs i k := ⟨x, hx, he, ⟨p, hp, by rw [zFY h4]; exact hd i hi⟩, h3⟩
  rcases h2 with h2 | h2
  . have : tyq ts x.e.ty = (j : Int) := by rw [zFY h2]; exact hd j hj
    obtain rfl : k = j := by omega
    exact .one hed
  . refine .cons hed (zIW hd hr hj n k hk ?_)
    rw [zCG, List.any_eq_true] at h2 ⊢
    obtain ⟨y, hy, h5⟩ := h2
    rw [Bool.and_eq_true] at h5
    refine ⟨y, hy, ?_⟩
    rw [Bool.and_eq_true]
    refine ⟨?_, h5.2⟩
    obtain ⟨p2, hp2, h6⟩ := (zB5 y _).1 h5.1
    exact (zB5 y _).2 ⟨p2, hp2, zF5 h6 (zCO (zB9 hk h3))⟩
/-! The matrix. -/
def byy (M : Nat → Nat → Bool) (b : Nat) : Nat → Nat → Bool := fun i j => M i j || (M i b && M b j)
def wsh (M : Nat → Nat → Bool) : Nat → Nat → Nat → Bool
  | 0 => M
  | b + 1 => byy (wsh M b) b
theorem zEC {E : Nat → Nat → Prop} {M : Nat → Nat → Bool} (h : ∀ i j, M i j = true → Wlk E i j) : ∀ (b i j : Nat), wsh M b i j = true → Wlk E i j
 | 0, i, j, c => h i j c
 | b + 1, i, j, c => by
  rw [wsh, byy, Bool.or_eq_true, Bool.and_eq_true] at c
  rcases c with c | ⟨c, d⟩
  . exact zEC h b i j c
  . exact (zEC h b i b c).trans (zEC h b b j d)
theorem wsh_grow (M : Nat → Nat → Bool) (b i j : Nat) (h : wsh M b i j = true) : wsh M (b + 1) i j = true := by rw [wsh, byy, h]; rfl
theorem zED (M : Nat → Nat → Bool) (i j : Nat) (h : M i j = true) : ∀ b, wsh M b i j = true
  | 0 => h
  | b + 1 => wsh_grow M b i j (zED M i j h b)
theorem zHB (M : Nat → Nat → Bool) : ∀ (b k i j : Nat), k < b → wsh M b i k = true → wsh M b k j = true → wsh M b i j = true
 | 0, k, i, j, hk, _, _ => by omega
 | b + 1, k, i, j, hk, h1, h2 => by
  rw [wsh, byy, Bool.or_eq_true, Bool.and_eq_true] at h1 h2 ⊢
  by_cases c : k = b
  . subst c
    have a : wsh M k i k = true := h1.elim id (·.1)
    have d : wsh M k k j = true := h2.elim id (·.2)
    exact .inr ⟨a, d⟩
  . have hk' : k < b := by omega
    rcases h1 with h1 | ⟨h1, h3⟩
    . rcases h2 with h2 | ⟨h2, h4⟩
      . exact .inl (zHB M b k i j hk' h1 h2)
      . exact .inr ⟨zHB M b k i b hk' h1 h2, h4⟩
    . rcases h2 with h2 | ⟨h2, h4⟩
      . exact .inr ⟨h1, zHB M b k b j hk' h3 h2⟩
      . exact .inr ⟨h1, h4⟩
theorem wlk_wsh {E : Nat → Nat → Prop} {M : Nat → Nat → Bool} {b : Nat} (h : ∀ i j, E i j → M i j = true) (hb : ∀ i j, E i j → j < b) {i j : Nat} (hw : Wlk E i j) : wsh M b i j = true := by
  induction hw with
  | one h1 => exact zED M _ _ (h _ _ h1) b
  | cons h1 _ ih => exact zHB M b _ _ _ (hb _ _ h1) (zED M _ _ (h _ _ h1) b) ih
def edl (M : Nat → Nat → Bool) : Bool := (List.range 6).any fun t => wsh M 6 t t
theorem edl_eq {ts : List Tp} {rs : List Rl} {M : Nat → Nat → Bool} (hd : Dst ts) (hr : ∀ x, x ∈ rs → Rok ts x) (hl : ts.length ≤ 6) (hM : ∀ i j, M i j = true ↔ Edg ts rs i j) : edl M = ts.any fun t => cmo rs t.n rs.length t.n := by
 have hlt : ∀ i j, Edg ts rs i j → i < ts.length ∧ j < ts.length := fun i j h => by
   obtain ⟨x, hx, he, ⟨p, hp, h1⟩, h2⟩ := h
   obtain ⟨a, ha, e1⟩ := (hr x hx).1 p hp
   obtain ⟨b, hb, e2⟩ := (hr x hx).2 he
   omega
 have hwl : ∀ i j, Wlk (Edg ts rs) i j → i < ts.length := fun i j h => by cases h with
   | one h => exact (hlt _ _ h).1
   | cons h _ => exact (hlt _ _ h).1
 rw [Bool.eq_iff_iff]
 unfold edl
 rw [List.any_eq_true, List.any_eq_true]
 constructor
 . rintro ⟨t, _, h⟩
   have hw := zEC (E := Edg ts rs) (fun i j c => .one ((hM i j).1 c)) 6 t t h
   have ht := hwl t t hw
   obtain ⟨n, hn⟩ := wlk_cmo hw ht hr ht
   exact ⟨ts[t], List.getElem_mem ht, zHM rs _ _ n hn⟩
 . rintro ⟨t, ht, h⟩
   obtain ⟨i, hi, rfl⟩ := List.getElem_of_mem ht
   refine ⟨i, List.mem_range.2 (by omega), ?_⟩
   exact wlk_wsh (E := Edg ts rs) (fun i j c => (hM i j).2 c) (fun i j c => by have := hlt i j c; omega) (zIW hd hr hi rs.length i hi h)
/-! Rules that may be. -/
theorem zE9 {ts : List Tp} : ∀ (l done : List Pt), wfs 0 ts done l = 0 → ∀ p, p ∈ l → ∃ i, ∃ _ : i < ts.length, tyq ts p.ty = (i : Int)
 | [], done, _, p, hp => by cases hp
 | y :: r, done, h, p, hp => by
  rw [wfs] at h
  split at h
  . rename_i c; exact absurd h c
  . rename_i c
    rcases List.mem_cons.1 hp with rfl | hp
    . exact zBI (Classical.byContradiction c)
    . exact zE9 r _ h p hp
theorem zFT {ts : List Tp} {ws : List Pt} : ∀ (l : List Pt) (ah : List ByteArray), nfs 0 ts ws ah l = 0 → ∀ p, p ∈ l → ∃ i, ∃ _ : i < ts.length, tyq ts p.ty = (i : Int)
 | [], ah, _, p, hp => by cases hp
 | y :: r, ah, h, p, hp => by
  rw [nfs] at h
  split at h
  . rename_i c; exact absurd h c
  . rename_i c
    rcases List.mem_cons.1 hp with rfl | hp
    . exact zBI (Classical.byContradiction c)
    . exact zFT r _ h p hp
theorem zFI {ts : List Tp} {ws : List Pt} : ∀ (l : List Mn) (ah : List ByteArray), mfs 0 ts ws ah l = 0 → ∀ m, m ∈ l → ∃ i, ∃ _ : i < ts.length, tyq ts m.p.ty = (i : Int)
 | [], ah, _, p, hp => by cases hp
 | y :: r, ah, h, p, hp => by
  rw [mfs] at h
  split at h
  . rename_i c; exact absurd h c
  . rename_i c
    rcases List.mem_cons.1 hp with rfl | hp
    . have h0 : mck ts ws ah p = 0 := Classical.byContradiction c
      unfold mck at h0
      split at h0
      . omega
      . split at h0
        . rename_i d; exact absurd h0 d
        . rename_i d; exact zBI (Classical.byContradiction d)
    . exact zFI r _ h p hp
structure Rsc (w : World) (ts : List Tp) (tv : Value) (tb cb mb : Nat) (L : List ByteArray) (n : Nat) : Prop where
  cc : w.cell? ⟨cb, 0, none⟩ = some (.map (some mb))
  nm : Nm w mb L n
  tk : Tab w 0 kpl
  tr : Tab w 1 rll
  tc : w.cell? ⟨tb, 0, none⟩ = some tv
  rt : Rd w (.row 59 2 (ts.map encY)) tv
theorem Rsc.later {w w' : World} {ts : List Tp} {tv : Value} {tb cb mb n : Nat} {L : List ByteArray} (h : Rsc w ts tv tb cb mb L n) (hb : Below w.heap.size w w') : Rsc w' ts tv tb cb mb L n :=
  ⟨(hb.cell (p := ⟨cb, 0, none⟩) (World.block_lt_of_cell? _ _ h.cc)).trans h.cc, h.nm.later hb, zAH h.tk hb, zAH h.tr hb, (hb.cell (p := ⟨tb, 0, none⟩) (World.block_lt_of_cell? _ _ h.tc)).trans h.tc, h.rt.later hb⟩
theorem Rsc.fr {w w' : World} {ts : List Tp} {tv : Value} {tb cb mb n n' : Nat} {L L' : List ByteArray} (h : Rsc w ts tv tb cb mb L n) (hf : Fr (fun i => i = mb) w w') (hk : Nm w' mb L' n') : Rsc w' ts tv tb cb mb L' n' :=
  ⟨zBG h.nm.isMap hf h.cc, hk, zDY h.nm.isMap hf h.tk (by decide), zDY h.nm.isMap hf h.tr (by decide), zBG h.nm.isMap hf h.tc, h.rt.fr h.nm.isMap hf⟩
def rk1 (ts : List Tp) (done : List Rl) (x : Rl) : Int := if rck ts x ≠ 0 then rck ts x else tkn (done.map Rl.n) x.n
theorem zHE (ts : List Tp) (done : List Rl) (x : Rl) (r : List Rl) : rks (rck ts) done (x :: r) = if rk1 ts done x ≠ 0 then rk1 ts done x else rks (rck ts) (done ++ [x]) r := by
 rw [rks]
 have e : (done.map Rl.n).any (fun r => seq r x.n) = done.any (fun d => seq d.n x.n) := by rw [List.any_map]; rfl
 unfold rk1 tkn
 rw [e]
 by_cases h1 : rck ts x = 0
 . by_cases h4 : done.any (fun d => seq d.n x.n) = true
   . have e : (if rck ts x ≠ 0 then rck ts x else if done.any (fun d => seq d.n x.n) = true then 7 else 0) = 7 := by rw [if_neg (fun c => c h1), if_pos h4]
     rw [e, if_neg (fun c => c h1), if_pos h4]
     rfl
   . have e : (if rck ts x ≠ 0 then rck ts x else if done.any (fun d => seq d.n x.n) = true then 7 else 0) = 0 := by rw [if_neg (fun c => c h1), if_neg h4]
     rw [e, if_neg (fun c => c h1), if_neg h4]
     rfl
 . simp [h1]
theorem rck_size {ts : List Tp} {x : Rl} (h : rck ts x = 0) : x.n.size ≤ maxLen := by
  unfold rck at h
  split at h
  . rename_i c; exact absurd h c
  . rename_i c; exact zG1 (Classical.byContradiction c)
theorem zDI (ts : List Tp) (hty : ∀ i (hi : i < ts.length), tyk ts[i].n ts[i].f = 0) (done : List Rl) (r : Rl) (hzr : Szr r) (tv u1 u2 u3 u4 u5 : Value) (tb cb mb n : Nat) (w : World) (hs : Rsc w ts tv tb cb mb (done.map Rl.n) n) (h1 : Rd w (.row 48 18 (r.w.map encP)) u1) (h2 : Rd w (.row 48 18 (r.t.map encP)) u2) (h3 : Rd w (.row 78 20 (r.m.map encM)) u3) (h4 : Rd w (.row 66 3 (r.k.map encK)) u4) (h5 : Rd w (.row 44 6 (r.e.v.map encO)) u5) (hn : n ≤ 100) :
   Calls Tryz.prog 59 #[.agg #[.string r.n, u1, u2, u3, u4, .string r.e.ty, u5], .pointer (some ⟨tb, 0, none⟩), .pointer (some ⟨cb, 0, none⟩)] w fun e w' => e = .returned (.int .i64 (rk1 ts done r)) ∧ Fr (fun i => i = mb) w w' ∧ (rk1 ts done r = 0 → Nm w' mb ((done ++ [r]).map Rl.n) (n + 1)) := by
 have HCR := hid (fun W (hW : Below w.heap.size w W) => zEN ts hty r hzr tv u1 u2 u3 u4 u5 W (hs.rt.later hW) (zAH hs.tk hW) (zAH hs.tr hW) (h1.later hW) (h2.later hW) (h3.later hW) (h4.later hW) (h5.later hW))
 have HTA := hid (fun W (hW : Below w.heap.size w W) (hz : rck ts r = 0) => zG9 mb (done.map Rl.n) n r.n (rck_size hz) hn W (hs.nm.later hW))
 have HCC := hid (fun W (hW : Below w.heap.size w W) => (hs.later hW).cc)
 have HTC := hid (fun W (hW : Below w.heap.size w W) => (hs.later hW).tc)
 have hmp : (done ++ [r]).map Rl.n = done.map Rl.n ++ [r.n] := by rw [List.map_append]; rfl
 rw [hmp]
 unfold rk1
 obtain ⟨E0, hE0⟩ : ∃ E, rck ts r = E := ⟨_, rfl⟩
 rw [hE0] at HCR HTA
 rw [hE0]
 obtain ⟨E3, hE3⟩ : ∃ E, tkn (done.map Rl.n) r.n = E := ⟨_, rfl⟩
 rw [hE3] at HTA
 rw [hE3]
 obtain ⟨tp, tn, tc, rfl⟩ := zAC hs.rt
 obtain ⟨q1, l1, j1, rfl⟩ := zAC h1
 obtain ⟨q2, l2, j2, rfl⟩ := zAC h2
 obtain ⟨q3, l3, j3, rfl⟩ := zAC h3
 obtain ⟨q4, l4, j4, rfl⟩ := zAC h4
 obtain ⟨q5, l5, j5, rfl⟩ := zAC h5
 clear hs h1 h2 h3 h4 h5 hn hmp hE0 hE3 hzr
 obtain ⟨rn, ws, ns, ms, ks, ⟨ety, vs⟩⟩ := r
 simp only at HCR HTA ⊢
 have HT : Hid (BlkT w (w.alloc (.cells [.string rn, .slice q1 l1 j1, .slice q2 l2 j2, .slice q3 l3 j3, .slice q4 l4 j4, .string ety, .slice q5 l5 j5].toArray 56)) [.string rn, .slice q1 l1 j1, .slice q2 l2 j2, .slice q3 l3 j3, .slice q4 l4 j4, .string ety, .slice q5 l5 j5] 56) := BlkT.start w _ _
 have XR : Hid ((w.alloc (.cells [.string rn, .slice q1 l1 j1, .slice q2 l2 j2, .slice q3 l3 j3, .slice q4 l4 j4, .string ety, .slice q5 l5 j5].toArray 56)).rangeAt w.heap.size 0 [.string rn, .slice q1 l1 j1, .slice q2 l2 j2, .slice q3 l3 j3, .slice q4 l4 j4, .string ety, .slice q5 l5 j5]) := zAL HT.out.b1
 have c5 : (w.alloc (.cells #[.string rn, .slice q1 l1 j1, .slice q2 l2 j2, .slice q3 l3 j3, .slice q4 l4 j4, .string ety, .slice q5 l5 j5] 56)).cell? ⟨tb, 0, none⟩ = some (.slice tp tn tc) := HTC.out _ HT.out.bel
 by_cases hz : E0 = 0
 . have HZ := hid hz
   rw [if_neg (fun c => c hz)]
   subst hz
   go_enter Tryz.func59, Tryz.ntmps59
   go_wp2_with ((with_reducible refine gLq ?_); refine wpList_load_mid (by rfl) 56 _ (by rfl) w.heap.size 0 (by rfl) [.string rn, .slice q1 l1 j1, .slice q2 l2 j2, .slice q3 l3 j3, .slice q4 l4 j4, .string ety, .slice q5 l5 j5] _ XR.out Tryz.underlying56 rfl (by kernel_rfl) ?_)
   refine (HCR.out _ HT.out.bel).mono ?_
   rintro e w1 ⟨rfl, hb1⟩
   have HT1 : Hid _ := HT.out.next hb1
   clear hb1
   clear XR c5
   have c0 : w1.cell? ⟨w.heap.size, 0, none⟩ = some (.string rn) := HT1.out.c 0
   have c3 : w1.cell? ⟨cb, 0, none⟩ = some (.map (some mb)) := HCC.out _ HT1.out.bel
   go_wp2_with fail
   refine (HTA.out _ HT1.out.bel HZ.out).mono ?_
   rintro e w3 ⟨rfl, hf3, hk3⟩
   have HF3 := hid ((Fr.of_below HT1.out.bel).trans hf3)
   have HK3 := hid hk3
   clear hf3 hk3
   go_wp2_with fail
   go_ret
   exact ⟨rfl, HF3.out, HK3.out⟩
 . rw [if_pos hz]
   have d9 : (E0 != 0) = true := by simpa using hz
   have HZ := hid hz
   clear hz
   go_enter Tryz.func59, Tryz.ntmps59
   go_wp2_with ((with_reducible refine gLq ?_); refine wpList_load_mid (by rfl) 56 _ (by rfl) w.heap.size 0 (by rfl) [.string rn, .slice q1 l1 j1, .slice q2 l2 j2, .slice q3 l3 j3, .slice q4 l4 j4, .string ety, .slice q5 l5 j5] _ XR.out Tryz.underlying56 rfl (by kernel_rfl) ?_)
   refine (HCR.out _ HT.out.bel).mono ?_
   rintro e w1 ⟨rfl, hb1⟩
   have HT1 : Hid _ := HT.out.next hb1
   clear hb1
   go_wp2_with fail
   go_ret
   exact ⟨rfl, Fr.of_below HT1.out.bel, fun c => absurd c HZ.out⟩
theorem zEZ (ts : List Tp) (hty : ∀ i (hi : i < ts.length), tyk ts[i].n ts[i].f = 0) (rs : List Rl) (hzz : ∀ r, r ∈ rs → Szr r) (tv : Value) (tb cb mb n0 : Nat) (lv : Value) (w : World) (hs : Rsc w ts tv tb cb mb [] n0) (hR : Rd w (.row 56 7 (rs.map encR)) lv) (hn : n0 + rs.length ≤ 100) :
  Calls Tryz.prog 58 #[lv, .func (.func 59) #[] #[.pointer (some ⟨tb, 0, none⟩), .pointer (some ⟨cb, 0, none⟩)]] w fun e w' => e = .returned (.int .i64 (rks (rck ts) [] rs)) ∧ Fr (fun i => i = mb) w w' ∧ (rks (rck ts) [] rs = 0 → Rsc w' ts tv tb cb mb ((rs.take (rs.length)).map Rl.n) (n0 + (rs.length))) := by
 have HS := hid hs
 have HL := hid hR
 have HNN := hid hn
 obtain ⟨p, cap, rfl, hmx, _⟩ := zAK lenR hR
 obtain ⟨n, hnl⟩ : ∃ n, rs.length = n := ⟨_, rfl⟩
 have HN := hid hnl
 obtain ⟨R, hRR⟩ : ∃ R, rks (rck ts) [] rs = R := ⟨_, rfl⟩
 have HR := hid hRR
 rw [hRR]
 rw [hnl] at hmx HL ⊢
 clear hR hs hn hnl hRR
 go_enter Tryz.func58, Tryz.ntmps58
 go_wp2_with fail
 go_loopg [10] (n + 1) (fun gg i wr => ∃ k : Nat, k ≤ n ∧ gg = n + 1 - k ∧ i = .int .i64 (k : Nat) ∧ rks (rck ts) (rs.take k) (rs.drop k) = R ∧ Fr (fun i => i = mb) w wr ∧ Rsc wr ts tv tb cb mb ((rs.take (k)).map Rl.n) (n0 + (k)))
 case atStart => exact ⟨0, by omega, by omega, rfl, by simpa using HR.out, Fr.refl _ _, by simpa using HS.out⟩
 case round =>
  obtain ⟨k, hk, rfl, rfl, hev, hF, hI⟩ := hrel
  have HF := hid hF
  have HI := hid hI
  by_cases hlt : k < n
  . have hkc : k < rs.length := by have := HN.out; omega
    obtain ⟨p', cap', e0, _, hat⟩ := zAK lenR (HL.out.fr HS.out.nm.isMap hF)
    simp only [Value.slice.injEq] at e0
    obtain ⟨rfl, hx0, rfl⟩ := e0
    obtain ⟨g, off, rfl, hrd⟩ := hat (by omega)
    obtain ⟨A, r1, o1⟩ := hrd wr (Below.refl _ _) k hkc
    obtain ⟨v1, v2, v3, v4, v5, z1, o1', o2, o3, o4, o5⟩ := rdR o1
    obtain ⟨a1, a2, a3, hu1⟩ := zAC o1'
    obtain ⟨b1, b2, b3, hu2⟩ := zAC o2
    obtain ⟨d1, d2, d3, hu3⟩ := zAC o3
    obtain ⟨f1, f2, f3, hu4⟩ := zAC o4
    obtain ⟨g1, g2, g3, hu5⟩ := zAC o5
    have hAz : A.length = 7 := o1.1.symm
    rw [List.drop_eq_getElem_cons hkc, zHE] at hev
    have htk : rs.take (k + 1) = rs.take k ++ [rs[k]] := List.take_succ_eq_append_getElem hkc
    have hcall := fun W (hW : Below wr.heap.size wr W) => zDI ts hty (rs.take k) rs[k] (hzz _ (List.getElem_mem hkc)) tv v1 v2 v3 v4 v5 tb cb mb (n0 + k) W (hI.later hW) (o1'.later hW) (o2.later hW) (o3.later hW) (o4.later hW) (o5.later hW) (by have := HNN.out; omega)
    rw [← htk] at hcall
    obtain ⟨e9, he9⟩ : ∃ e9, rk1 ts (rs.take k) rs[k] = e9 := ⟨_, rfl⟩
    rw [he9] at hcall hev
    have HCM : Hid (∀ W, Below wr.heap.size wr W → Calls Tryz.prog 59 #[.agg A.toArray, .pointer (some ⟨tb, 0, none⟩), .pointer (some ⟨cb, 0, none⟩)] W (fun e w' => e = .returned (.int .i64 e9) ∧ Fr (fun i => i = mb) W w' ∧ (e9 = 0 → Nm w' mb ((rs.take (k + 1)).map Rl.n) (n0 + k + 1)))) := fun W hW => by rw [z1]; exact hcall W hW
    have HAO : Hid (A.all (·.oneCell') = true) := by show _ = _; rw [z1, hu1, hu2, hu3, hu4, hu5]; rfl
    have ZA : Hid ((Tryz.prog.info? 56).map (·.size) = some A.length) := by show _ = _; rw [hAz]; kernel_rfl
    have HAL := hid hAz
    have X1_ := hid r1
    have HEV := hid hev
    have HTK := hid htk
    have i1 : (0 : Int) ≤ (k : Int) := by omega
    have i2 : (k : Int) < (n : Int) := by omega
    clear hF hI hat hrd r1 o1 hAz hev htk hx0 hcall he9 z1 hu1 hu2 hu3 hu4 hu5 o1' o2 o3 o4 o5
    go_wp2_with (first
      | ((with_reducible refine gLq ?_); refine wpList_load_mid (by rfl) 56 _ (by rfl) g (off + k * 7) (by rfl) A _ X1_.out Tryz.underlying56 rfl ZA.out ?_)
      | ((with_reducible refine gSq ?_); refine zB2 (by rfl) 56 _ _ (by rfl) wr.heap.size 0 _ 56 (.agg A.toArray) A (by rfl) (by rfl) (by rfl) (heap_alloc_new _ _) (by have := HAL.out; simp; omega) ZA.out HAO.out ?_; intro w1 hblk hfr; rw [zBA (by rw [HAL.out]; rfl)] at hblk; have XB : Hid (w1.rangeAt wr.heap.size 0 A) := zAL hblk; have HBW : Hid (Below wr.heap.size wr w1) := zAP hfr; clear hblk hfr)
      | ((with_reducible refine gLq ?_); refine wpList_load_mid (by rfl) 56 _ (by rfl) wr.heap.size 0 (by rfl) A _ XB.out Tryz.underlying56 rfl ZA.out ?_))
    refine (HCM.out _ HBW.out).mono ?_
    rintro e w2 ⟨rfl, hf2, hk2⟩
    have HF2 : Hid (Fr (fun i => i = mb) w w2) := HF.out.trans ((Fr.of_below HBW.out).trans hf2)
    have HK2 := hid hk2
    have HS1 := hid ((HI.out.later HBW.out))
    have HFR := hid hf2
    clear hk2 hf2
    by_cases hz : e9 = 0
    . have HE2 := HEV.out
      rw [if_neg (fun c => c hz)] at HE2
      have HE3 := hid HE2
      have HI2 := hid (show Rsc w2 ts tv tb cb mb ((rs.take (k + 1)).map Rl.n) (n0 + (k + 1)) from HS1.out.fr HFR.out (HK2.out hz))
      subst hz
      clear HE2 HK2 HS1 HFR
      go_wp2_with fail
      go_roundg (n + 1 - (k + 1))
      case rel => exact ⟨k + 1, by omega, rfl, by go_num, by rw [HTK.out]; exact HE3.out, HF2.out, HI2.out⟩
      case measure => omega
    . have HE2 : Hid (R = e9) := by have h := HEV.out; rw [if_pos hz] at h; exact h.symm
      have d9 : (e9 != 0) = true := by simpa using hz
      have HZ := hid hz
      clear hz HK2 HS1 HFR
      go_wp2_with fail
      go_ret
      exact ⟨zAG HE2.out.symm, HF2.out, fun c => absurd (HE2.out.symm.trans c) HZ.out⟩
  . obtain rfl : k = n := by omega
    have hw : rs.take k = rs := List.take_of_length_le (by have := HN.out; omega)
    have hd : rs.drop k = [] := List.drop_of_length_le (by have := HN.out; omega)
    rw [hd, rks] at hev
    have HE2 : Hid (R = 0) := hev.symm
    have HI2 := hid hI
    clear hev hd hF hI hw
    go_wp2_with fail
    go_ret
    exact ⟨zAG HE2.out.symm, HF.out, fun _ => HI2.out⟩
theorem heap_3 (w : World) (a b c : Obj) : (((w.alloc a).alloc b).alloc c).heap[w.heap.size + 2]? = some c := by
  have := heap_alloc_new ((w.alloc a).alloc b) c
  simpa using this
theorem zDM (ts : List Tp) (hty : ∀ i (hi : i < ts.length), tyk ts[i].n ts[i].f = 0) (rs : List Rl) (hzz : ∀ r, r ∈ rs → Szr r) (tv rv : Value) (w : World) (hT : Rd w (.row 59 2 (ts.map encY)) tv) (hR : Rd w (.row 56 7 (rs.map encR)) rv) (htk : Tab w 0 kpl) (htr : Tab w 1 rll) (hn : rs.length ≤ 90) :
  Calls Tryz.prog 34 #[rv, tv] w fun e w' => e = .returned (.int .i64 (rks (rck ts) [] rs)) ∧ Below w.heap.size w w' := by
 have HC := hid (fun W tb cb mb (hs : Rsc W ts tv tb cb mb [] 0) hR => zEZ ts hty rs hzz tv tb cb mb 0 rv W hs hR (by omega))
 obtain ⟨tp, tn, tc, rfl⟩ := zAC hT
 obtain ⟨rp, rn, rc, rfl⟩ := zAC hR
 have hmm := @run_makeMap Tryz.prog
 have hb0 : Below w.heap.size w (w.alloc (.cells #[.slice tp tn tc] 25)) := (Below.refl _ _).alloc (Nat.le_refl _) _
 have hb1 : Below w.heap.size w ((w.alloc (.cells #[.slice tp tn tc] 25)).alloc (.map #[] 0)) := hb0.alloc (by simp) _
 have hb2 : Below ((w.alloc (.cells #[.slice tp tn tc] 25)).alloc (.map #[] 0)).heap.size ((w.alloc (.cells #[.slice tp tn tc] 25)).alloc (.map #[] 0)) (((w.alloc (.cells #[.slice tp tn tc] 25)).alloc (.map #[] 0)).alloc (.cells #[.map (some (w.heap.size + 1))] 139)) := (Below.refl _ _).alloc (Nat.le_refl _) _
 have hb3 : Below w.heap.size w (((w.alloc (.cells #[.slice tp tn tc] 25)).alloc (.map #[] 0)).alloc (.cells #[.map (some (w.heap.size + 1))] 139)) := hb1.alloc hb1.size _
 have hnm : Nm ((w.alloc (.cells #[.slice tp tn tc] 25)).alloc (.map #[] 0)) (w.heap.size + 1) [] 0 := by have := zJ1 (w.alloc (.cells #[.slice tp tn tc] 25)); simpa using this
 have ht0 : (((w.alloc (.cells #[.slice tp tn tc] 25)).alloc (.map #[] 0)).alloc (.cells #[.map (some (w.heap.size + 1))] 139)).cell? ⟨w.heap.size, 0, none⟩ = some (.slice tp tn tc) := by
  refine zAB (cs := #[.slice tp tn tc]) (T := 25) ?_ 0
  rw [Below.heap_alloc _ _ _ (by simp; omega), Below.heap_alloc _ _ _ (by simp)]
  exact heap_alloc_new _ _
 have HTS : Hid (Rsc (((w.alloc (.cells #[.slice tp tn tc] 25)).alloc (.map #[] 0)).alloc (.cells #[.map (some (w.heap.size + 1))] 139)) ts (.slice tp tn tc) w.heap.size (w.heap.size + 2) (w.heap.size + 1) [] 0) := ⟨zAB (heap_3 _ _ _ _) 0, hnm.later hb2, zAH htk hb3, zAH htr hb3, ht0, hT.later hb3⟩
 have HRD := hid (hR.later hb3)
 have HB3 := hid hb3
 clear hb0 hb1 hb2 hb3 hT htk htr hn hR hnm ht0
 go_enter Tryz.func34, Tryz.ntmps34
 go_wp2_with fail
 refine (HC.out _ _ _ _ HTS.out HRD.out).mono ?_
 rintro e w3 ⟨rfl, hf3, _⟩
 have HB4 : Hid (Below w.heap.size w w3) := zA4 HB3.out hf3 (by omega)
 clear hf3
 go_wp2_with fail
 go_ret
 exact ⟨rfl, HB4.out⟩
end Go.Proofs.YtnlmknbhppdliaaGreatDoor.Chk
