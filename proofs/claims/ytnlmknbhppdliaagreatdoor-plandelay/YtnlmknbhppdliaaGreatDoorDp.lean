/-
  Names that are taken; types, one by one, by the program. A rule, by the program.
-/
import Derived.Test.YtnlmknbhppdliaaGreatDoorDg
import Derived.Test.YtnlmknbhppdliaaGreatDoorDk
set_option maxHeartbeats 64000000
namespace Go.Proofs.YtnlmknbhppdliaaGreatDoor.Chk
open Go.ChangeShapes Go.WideShapes Go.ChangeAt Go.RowKit Go.Maps
set_option linter.unusedVariables false
set_option linter.unusedSimpArgs false
set_option maxRecDepth 20000
theorem zA4 {w W w' : World} {mb : Nat} (hb : Below w.heap.size w W) (hf : Fr (fun i => i = mb) W w') (hm : w.heap.size ≤ mb) : Below w.heap.size w w' :=
  ⟨hf.os.trans hb.os, hf.tape.trans hb.tape, hf.output.trans hb.output, Nat.le_trans hb.size hf.size, fun k hk => (hf.block k (Nat.lt_of_lt_of_le hk hb.size) (by omega)).trans (hb.block k hk)⟩
theorem zGL {α : Type} {q : α → Bool} : ∀ (l : List α) (n : Nat), 0 ≤ ixq q l n ↔ l.any q = true
 | [], n => by simp [ixq]
 | y :: r, n => by
  rw [ixq]
  by_cases c : q y = true
  . rw [if_pos c]; simp [c]
  . rw [if_neg c, zGL r (n + 1)]; simp [c]
theorem zJN (done : List Tp) (s : ByteArray) : 0 ≤ tyq done s ↔ (done.map Tp.n).any (fun r => seq r s) = true := by
  unfold tyq
  rw [zGL, List.any_map]
  rfl
def tkn (L : List ByteArray) (s : ByteArray) : Int := if L.any (fun r => seq r s) = true then 7 else 0
theorem zG9 (mb : Nat) (L : List ByteArray) (n : Nat) (s : ByteArray) (hs : s.size ≤ maxLen) (hn : n ≤ 100) (w : World) (h : Nm w mb L n) :
  Calls Tryz.prog 57 #[.map (some mb), .string s] w fun e w' => e = .returned (.int .i64 (tkn L s)) ∧ Fr (fun i => i = mb) w w' ∧ (tkn L s = 0 → Nm w' mb (L ++ [s]) (n + 1)) := by
 have HNM := hid h
 have HSZ := hid hs
 have HN := hid (show n ≤ 2000 by omega)
 obtain ⟨q, hq⟩ : ∃ q, L.any (fun r => seq r s) = q := ⟨_, rfl⟩
 have hq2 : L.any (fun r => r.data.toList == s.data.toList) = q := by rw [← hq]; congr 1; funext r; exact (zB4 r s).symm
 have HQ := hid hq2
 have hR : tkn L s = if q = true then 7 else 0 := by unfold tkn; rw [hq]
 rw [hR]
 have HB := hid (fun o => (Below.refl w.heap.size w).alloc (Nat.le_refl _) o)
 clear h hs hn hq hq2 hR
 cases q with
 | true =>
  rw [if_pos rfl]
  go_enter Tryz.func57, Tryz.ntmps57
  go_wp2_with ((with_reducible show wpList _ _ _ (Oper.mk _ (.lookup _ _ _ _) _ _ _ _ :: _) _ _); refine zG2 (by rfl) _ _ (by rfl) mb L n (by rfl) HNM.out s HSZ.out (by rfl) true HQ.out ?_)
  go_ret
  exact ⟨rfl, Fr.of_below (HB.out _), fun c => absurd c (by decide)⟩
 | false =>
  rw [if_neg (by decide)]
  go_enter Tryz.func57, Tryz.ntmps57
  go_wp2_with (first
   | ((with_reducible show wpList _ _ _ (Oper.mk _ (.lookup _ _ _ _) _ _ _ _ :: _) _ _); refine zG2 (by rfl) _ _ (by rfl) mb L n (by rfl) HNM.out s HSZ.out (by rfl) false HQ.out ?_)
   | ((with_reducible show wpList _ _ _ (Oper.mk _ (.mapUpdate _ _ _ _) _ _ _ _ :: _) _ _); refine zJZ (by rfl) _ _ _ (by rfl) mb L n (by rfl) (HNM.out.later (HB.out _)) HN.out s HSZ.out (by rfl) (by rfl) ?_; intro w2 hn2 hf2; have HN2 := hid hn2; have HF2 := hid ((Fr.of_below (HB.out _)).trans hf2); clear hn2 hf2))
  go_ret
  exact ⟨rfl, HF2.out, fun _ => HN2.out⟩
theorem zHK (fn : ByteArray) (fk : Int) (w : World) (hk : Tab w 0 kpl) (hr : Tab w 1 rll) :
  Calls Tryz.prog 56 #[.agg #[.string fn, .int .i64 fk]] w fun e w' => e = .returned (.bool (kpt fn)) ∧ Below w.heap.size w w' := by
 have HK := hid (fun W (hW : Below w.heap.size w W) => zET fn W (zAH hk hW) (zAH hr hW))
 have HB : Hid (Below w.heap.size w (w.alloc (.cells #[.string fn, .int .i64 fk] 103))) := (Below.refl _ _).alloc (Nat.le_refl _) _
 go_enter Tryz.func56, Tryz.ntmps56
 go_wp2_with fail
 refine (HK.out _ HB.out).mono ?_
 rintro e w2 ⟨rfl, rfl⟩
 go_wp2_with fail
 go_ret
 exact ⟨rfl, HB.out⟩
theorem zDG (fs : List Fd) (v : Value) (w : World) (h : Rd w (.row 103 2 (fs.map encF)) v) (hk : Tab w 0 kpl) (hr : Tab w 1 rll) :
  Calls Tryz.prog 84 #[v, .func (.func 56) #[] #[]] w fun e w' => e = .returned (.int .i64 (ixq (fun f => kpt f.n) fs 0)) ∧ Below w.heap.size w w' := by
 obtain ⟨p, cap, rfl, hmx, hat⟩ := zAK lenF h
 have HAT : Hid (At encF 2 w p fs) := hat
 obtain ⟨n, hnl⟩ : ∃ n, fs.length = n := ⟨_, rfl⟩
 have HN := hid hnl
 have HTK := hid hk
 have HTR := hid hr
 rw [hnl] at hmx ⊢
 clear h hat hnl hk hr
 go_enter Tryz.func84, Tryz.ntmps84
 go_wp2_with fail
 go_loopg [8] (n + 1) (fun gg i wr => ∃ k : Nat, k ≤ n ∧ gg = n + 1 - k ∧ i = .int .i64 (k : Nat) ∧ (∀ (j : Nat) (hj : j < fs.length), j < k → kpt fs[j].n = false) ∧ Below w.heap.size w wr)
 case atStart => exact ⟨0, by omega, by omega, rfl, fun j _ h => by omega, Below.refl _ _⟩
 case round =>
  obtain ⟨k, hk, rfl, rfl, hno, hB⟩ := hrel
  have HB := hid hB
  by_cases hlt : k < n
  . have hkc : k < fs.length := by have := HN.out; omega
    obtain ⟨g, off, rfl, hrd⟩ := HAT.out (by omega)
    obtain ⟨us, r1, o1⟩ := hrd wr hB k hkc
    have z1 := rdF o1
    rw [z1] at r1
    have c0 : wr.cell? ⟨g, off + k * 2, none⟩ = some (.string fs[k].n) := by simpa using r1 0 _ rfl
    have c1 : wr.cell? ⟨g, off + k * 2 + 1, none⟩ = some (.int .i64 fs[k].k) := r1 1 _ rfl
    have HCM := hid (zHK fs[k].n fs[k].k wr (zAH HTK.out hB) (zAH HTR.out hB))
    have HNO := hid hno
    obtain ⟨q, hq⟩ : ∃ q, kpt fs[k].n = q := ⟨_, rfl⟩
    have HQK : Hid (kpt fs[k].n = q) := hq
    rw [hq] at HCM
    obtain ⟨fn, hfn⟩ : ∃ fn, fs[k].n = fn := ⟨_, rfl⟩
    obtain ⟨fk, hfk⟩ : ∃ fk, fs[k].k = fk := ⟨_, rfl⟩
    rw [hfn] at c0
    rw [hfk] at c1
    rw [hfn, hfk] at HCM
    have i1 : (0 : Int) ≤ (k : Int) := by omega
    have i2 : (k : Int) < (n : Int) := by omega
    clear hno hB hrd o1 z1 r1 hq hfn hfk
    cases q with
    | true =>
     go_wp2_with (go_at_call 56; refine HCM.out.mono ?_; rintro e w2 ⟨rfl, hb2⟩; have HB2 := hid (zAA HB.out hb2 HB.out.size); clear hb2)
     go_ret
     exact ⟨zAG (by show (k : Int) = ixq _ _ _; rw [zCX (q := fun f : Fd => kpt f.n) fs 0 k hkc (fun j hj => HNO.out j (by omega) hj) (by exact HQK.out)]; simp), HB2.out⟩
    | false =>
     go_wp2_with (go_at_call 56; refine HCM.out.mono ?_; rintro e w2 ⟨rfl, hb2⟩; have HB2 := hid (zAA HB.out hb2 HB.out.size); clear hb2)
     go_roundg (n + 1 - (k + 1))
     case rel =>
      refine ⟨k + 1, by omega, rfl, by go_num, fun j hj hjk => ?_, HB2.out⟩
      by_cases c : j < k
      . exact HNO.out j hj c
      . obtain rfl : j = k := by omega
        exact HQK.out
     case measure => omega
  . obtain rfl : k = n := by omega
    have HR := hid (show ixq (fun f : Fd => kpt f.n) fs 0 = -1 from zCB _ _ (fun x hx => by
     obtain ⟨j, hj, rfl⟩ := List.getElem_of_mem hx
     exact hno j hj (by have := HN.out; omega)))
    clear hno hB
    go_wp2_with fail
    go_ret
    exact ⟨zAG HR.out.symm, HB.out⟩
theorem zCE (fs : List Fd) (v : Value) (w : World) (q : Bool) (hq : fs.any (fun f => kpt f.n) = q) (h : Rd w (.row 103 2 (fs.map encF)) v) (hk : Tab w 0 kpl) (hr : Tab w 1 rll) :
  Calls Tryz.prog 55 #[v, .func (.func 56) #[] #[]] w fun e w' => e = .returned (.bool q) ∧ Below w.heap.size w w' := by
 have HC := hid (zDG fs v w h hk hr)
 obtain ⟨p, n, cap, rfl⟩ := zAC h
 have ha := zGL (q := fun f : Fd => kpt f.n) fs 0
 rw [hq] at ha
 obtain ⟨x, hx⟩ : ∃ x, ixq (fun f : Fd => kpt f.n) fs 0 = x := ⟨_, rfl⟩
 rw [hx] at ha HC
 have d : decide (0 ≤ x) = q := by cases q <;> simp_all
 clear hx hq h ha hk hr
 cases q with
 | true =>
  go_enter Tryz.func55, Tryz.ntmps55
  go_wp2_with fail
  refine HC.out.mono ?_
  rintro e w2 ⟨rfl, hb2⟩
  have HB := hid hb2
  clear hb2
  go_wp2_with fail
  go_ret
  exact ⟨rfl, HB.out⟩
 | false =>
  go_enter Tryz.func55, Tryz.ntmps55
  go_wp2_with fail
  refine HC.out.mono ?_
  rintro e w2 ⟨rfl, hb2⟩
  have HB := hid hb2
  clear hb2
  go_wp2_with fail
  go_ret
  exact ⟨rfl, HB.out⟩
structure Tsc (w : World) (cb mb : Nat) (L : List ByteArray) (n : Nat) : Prop where
  cc : w.cell? ⟨cb, 0, none⟩ = some (.map (some mb))
  nm : Nm w mb L n
  tk : Tab w 0 kpl
  tr : Tab w 1 rll
theorem Nm.isMap {w : World} {mb : Nat} {L : List ByteArray} {n : Nat} (h : Nm w mb L n) : ∃ es c, w.heap[mb]? = some (.map es c) := by
  obtain ⟨D, ⟨es, clock, hb, _⟩, _⟩ := h
  exact ⟨es, clock, hb⟩
theorem Tsc.later {w w' : World} {cb mb n : Nat} {L : List ByteArray} (h : Tsc w cb mb L n) (hb : Below w.heap.size w w') : Tsc w' cb mb L n :=
  ⟨(hb.cell (p := ⟨cb, 0, none⟩) (World.block_lt_of_cell? _ _ h.cc)).trans h.cc, h.nm.later hb, zAH h.tk hb, zAH h.tr hb⟩
theorem Tsc.fr {w w' : World} {cb mb n n' : Nat} {L L' : List ByteArray} (h : Tsc w cb mb L n) (hf : Fr (fun i => i = mb) w w') (hk : Nm w' mb L' n') : Tsc w' cb mb L' n' :=
  ⟨zBG h.nm.isMap hf h.cc, hk, zDY h.nm.isMap hf h.tk (by decide), zDY h.nm.isMap hf h.tr (by decide)⟩
def tk1 (done : List Tp) (t : Tp) : Int := if tyk t.n t.f ≠ 0 then tyk t.n t.f else if kpt t.n = true then 4 else if t.f.any (fun f => kpt f.n) = true then 4 else tkn (done.map Tp.n) t.n
theorem zG5 (done : List Tp) (t : Tp) (r : List Tp) : tks done (t :: r) = if tk1 done t ≠ 0 then tk1 done t else tks (done ++ [t]) r := by
 rw [tks]
 unfold tk1 tkn
 by_cases h1 : tyk t.n t.f = 0
 . by_cases h2 : kpt t.n = true
   . simp [h1, h2]
   . by_cases h3 : t.f.any (fun f => kpt f.n) = true
     . simp only [h1, h2, h3, if_true]; simp
     . by_cases h4 : (done.map Tp.n).any (fun r => seq r t.n) = true
       . have e : (if tyk t.n t.f ≠ 0 then tyk t.n t.f else if kpt t.n = true then 4 else if t.f.any (fun f => kpt f.n) = true then 4 else if (done.map Tp.n).any (fun r => seq r t.n) = true then 7 else 0) = 7 := by rw [if_neg (fun c => c h1), if_neg h2, if_neg h3, if_pos h4]
         rw [e, if_neg (fun c => c h1), if_neg h2, if_neg h3, if_pos ((zJN done t.n).2 h4)]
         rfl
       . have e : (if tyk t.n t.f ≠ 0 then tyk t.n t.f else if kpt t.n = true then 4 else if t.f.any (fun f => kpt f.n) = true then 4 else if (done.map Tp.n).any (fun r => seq r t.n) = true then 7 else 0) = 0 := by rw [if_neg (fun c => c h1), if_neg h2, if_neg h3, if_neg h4]
         rw [e, if_neg (fun c => c h1), if_neg h2, if_neg h3, if_neg (fun c => h4 ((zJN done t.n).1 c))]
         rfl
 . simp [h1]
theorem tyk_size {n : ByteArray} {fs : List Fd} (h : tyk n fs = 0) : n.size ≤ maxLen := by
 unfold tyk at h
 have h1 : nchk n = 0 := by
   by_cases c : nchk n = 0
   . exact c
   . rw [if_pos c] at h; exact h
 unfold nchk at h1
 by_cases c : n.size < 1 ∨ 10 < n.size
 . rw [if_pos c] at h1; cases h1
 . unfold maxLen; omega
theorem zDH (done : List Tp) (t : Tp) (fv : Value) (cb mb n : Nat) (w : World) (hs : Tsc w cb mb (done.map Tp.n) n) (hF : Rd w (.row 103 2 (t.f.map encF)) fv) (hn : n ≤ 100) :
   Calls Tryz.prog 52 #[.agg #[.string t.n, fv], .pointer (some ⟨cb, 0, none⟩)] w fun e w' => e = .returned (.int .i64 (tk1 done t)) ∧ Fr (fun i => i = mb) w w' ∧ (tk1 done t = 0 → Nm w' mb ((done ++ [t]).map Tp.n) (n + 1)) := by
 obtain ⟨fp, fn, fc, rfl⟩ := zAC hF
 obtain ⟨tn, tf⟩ := t
 simp only at hF ⊢
 obtain ⟨qk, hqk⟩ : ∃ q, kpt tn = q := ⟨_, rfl⟩
 obtain ⟨qa, hqa⟩ : ∃ q, tf.any (fun f => kpt f.n) = q := ⟨_, rfl⟩
 have HCT := hid (fun W (hW : Below w.heap.size w W) => zGO tn tf (.slice fp fn fc) W (hF.later hW))
 have HKE := hid (fun W (hW : Below w.heap.size w W) => zET tn W (zAH hs.tk hW) (zAH hs.tr hW))
 have HCF := hid (fun W (hW : Below w.heap.size w W) => zCE tf (.slice fp fn fc) W qa hqa (hF.later hW) (zAH hs.tk hW) (zAH hs.tr hW))
 have HTA := hid (fun W (hW : Below w.heap.size w W) (hz : tyk tn tf = 0) => zG9 mb (done.map Tp.n) n tn (tyk_size hz) hn W (hs.nm.later hW))
 have HCC := hid (fun W (hW : Below w.heap.size w W) => (hs.later hW).cc)
 have hmp : (done ++ [(⟨tn, tf⟩ : Tp)]).map Tp.n = done.map Tp.n ++ [tn] := by rw [List.map_append]; rfl
 rw [hmp]
 unfold tk1
 simp only
 rw [hqk, hqa]
 rw [hqk] at HKE
 obtain ⟨E0, hE0⟩ : ∃ E, tyk tn tf = E := ⟨_, rfl⟩
 rw [hE0] at HCT HTA
 rw [hE0]
 obtain ⟨E3, hE3⟩ : ∃ E, tkn (done.map Tp.n) tn = E := ⟨_, rfl⟩
 rw [hE3] at HTA
 rw [hE3]
 have HT : Hid (BlkT w (w.alloc (.cells [.string tn, .slice fp fn fc].toArray 59)) [.string tn, .slice fp fn fc] 59) := BlkT.start w _ _
 clear hs hF hn hqk hqa hmp hE0 hE3
 by_cases hz : E0 = 0
 . have HZ := hid hz
   cases qk with
   | true =>
    rw [if_neg (fun c => c hz), if_pos rfl]
    subst hz
    go_enter Tryz.func52, Tryz.ntmps52
    go_wp2_with fail
    refine (HCT.out _ HT.out.bel).mono ?_
    rintro e w1 ⟨rfl, hb1⟩
    have HT1 : Hid _ := HT.out.next hb1
    clear hb1
    have c0 : w1.cell? ⟨w.heap.size, 0, none⟩ = some (.string tn) := HT1.out.c 0
    go_wp2_with (go_at_call 54; refine (HKE.out _ HT1.out.bel).mono ?_; rintro e w2 ⟨rfl, rfl⟩)
    go_ret
    exact ⟨rfl, Fr.of_below HT1.out.bel, fun c => absurd c (by decide)⟩
   | false =>
    cases qa with
    | true =>
     rw [if_neg (fun c => c hz), if_neg (by decide), if_pos rfl]
     subst hz
     go_enter Tryz.func52, Tryz.ntmps52
     go_wp2_with fail
     refine (HCT.out _ HT.out.bel).mono ?_
     rintro e w1 ⟨rfl, hb1⟩
     have HT1 : Hid _ := HT.out.next hb1
     clear hb1
     have c0 : w1.cell? ⟨w.heap.size, 0, none⟩ = some (.string tn) := HT1.out.c 0
     have c1 : w1.cell? ⟨w.heap.size, 1, none⟩ = some (.slice fp fn fc) := HT1.out.c 1
     go_wp2_with (first
      | (go_at_call 54; refine (HKE.out _ HT1.out.bel).mono ?_; rintro e w2 ⟨rfl, rfl⟩)
      | (go_at_call 55; refine (HCF.out _ HT1.out.bel).mono ?_; rintro e w2 ⟨rfl, hb2⟩; have HT2 := hid (HT1.out.next hb2); clear hb2))
     go_ret
     exact ⟨rfl, Fr.of_below HT2.out.bel, fun c => absurd c (by decide)⟩
    | false =>
     rw [if_neg (fun c => c hz), if_neg (by decide), if_neg (by decide)]
     subst hz
     go_enter Tryz.func52, Tryz.ntmps52
     go_wp2_with fail
     refine (HCT.out _ HT.out.bel).mono ?_
     rintro e w1 ⟨rfl, hb1⟩
     have HT1 : Hid _ := HT.out.next hb1
     clear hb1
     have c0 : w1.cell? ⟨w.heap.size, 0, none⟩ = some (.string tn) := HT1.out.c 0
     have c1 : w1.cell? ⟨w.heap.size, 1, none⟩ = some (.slice fp fn fc) := HT1.out.c 1
     go_wp2_with (first
      | (go_at_call 54; refine (HKE.out _ HT1.out.bel).mono ?_; rintro e w2 ⟨rfl, rfl⟩)
      | (go_at_call 55; refine (HCF.out _ HT1.out.bel).mono ?_; rintro e w2 ⟨rfl, hb2⟩; have HT2 := hid (HT1.out.next hb2); clear hb2; have c2 : w2.cell? ⟨w.heap.size, 0, none⟩ = some (.string tn) := HT2.out.c 0; have c3 : w2.cell? ⟨cb, 0, none⟩ = some (.map (some mb)) := HCC.out _ HT2.out.bel))
     refine (HTA.out _ HT2.out.bel HZ.out).mono ?_
     rintro e w3 ⟨rfl, hf3, hk3⟩
     have HF3 := hid ((Fr.of_below HT2.out.bel).trans hf3)
     have HK3 := hid hk3
     clear hf3 hk3
     go_wp2_with fail
     go_ret
     exact ⟨rfl, HF3.out, HK3.out⟩
 . rw [if_pos hz]
   have d9 : (E0 != 0) = true := by simpa using hz
   have HZ := hid hz
   clear hz
   go_enter Tryz.func52, Tryz.ntmps52
   go_wp2_with fail
   refine (HCT.out _ HT.out.bel).mono ?_
   rintro e w1 ⟨rfl, hb1⟩
   have HT1 : Hid _ := HT.out.next hb1
   clear hb1
   go_wp2_with fail
   go_ret
   exact ⟨rfl, Fr.of_below HT1.out.bel, fun c => absurd c HZ.out⟩
theorem zE3 (ts : List Tp) (cb mb n0 : Nat) (lv : Value) (w : World) (hs : Tsc w cb mb [] n0) (hR : Rd w (.row 59 2 (ts.map encY)) lv) (hn : n0 + ts.length ≤ 100) :
  Calls Tryz.prog 51 #[lv, .func (.func 52) #[] #[.pointer (some ⟨cb, 0, none⟩)]] w fun e w' => e = .returned (.int .i64 (tks [] ts)) ∧ Fr (fun i => i = mb) w w' ∧ (tks [] ts = 0 → Tsc w' cb mb ((ts.take (ts.length)).map Tp.n) (n0 + (ts.length))) := by
 have HS := hid hs
 have HL := hid hR
 have HNN := hid hn
 obtain ⟨p, cap, rfl, hmx, _⟩ := zAK lenY hR
 obtain ⟨n, hnl⟩ : ∃ n, ts.length = n := ⟨_, rfl⟩
 have HN := hid hnl
 obtain ⟨R, hRR⟩ : ∃ R, tks [] ts = R := ⟨_, rfl⟩
 have HR := hid hRR
 rw [hRR]
 rw [hnl] at hmx HL ⊢
 clear hR hs hn hnl hRR
 go_enter Tryz.func51, Tryz.ntmps51
 go_wp2_with fail
 go_loopg [10] (n + 1) (fun gg i wr => ∃ k : Nat, k ≤ n ∧ gg = n + 1 - k ∧ i = .int .i64 (k : Nat) ∧ tks (ts.take k) (ts.drop k) = R ∧ Fr (fun i => i = mb) w wr ∧ Tsc wr cb mb ((ts.take (k)).map Tp.n) (n0 + (k)))
 case atStart => exact ⟨0, by omega, by omega, rfl, by simpa using HR.out, Fr.refl _ _, by simpa using HS.out⟩
 case round =>
  obtain ⟨k, hk, rfl, rfl, hev, hF, hI⟩ := hrel
  have HF := hid hF
  have HI := hid hI
  by_cases hlt : k < n
  . have hkc : k < ts.length := by have := HN.out; omega
    obtain ⟨p', cap', e0, _, hat⟩ := zAK lenY (HL.out.fr HS.out.nm.isMap hF)
    simp only [Value.slice.injEq] at e0
    obtain ⟨rfl, hx0, rfl⟩ := e0
    obtain ⟨g, off, rfl, hrd⟩ := hat (by omega)
    obtain ⟨A, r1, o1⟩ := hrd wr (Below.refl _ _) k hkc
    obtain ⟨fv, z1, o2⟩ := rdY o1
    obtain ⟨up, un, uc, hu⟩ := zAC o2
    have hAz : A.length = 2 := o1.1.symm
    rw [List.drop_eq_getElem_cons hkc, zG5] at hev
    have htk : ts.take (k + 1) = ts.take k ++ [ts[k]] := List.take_succ_eq_append_getElem hkc
    have hcall := fun W (hW : Below wr.heap.size wr W) => zDH (ts.take k) ts[k] fv cb mb (n0 + k) W (hI.later hW) (o2.later hW) (by have := HNN.out; omega)
    rw [← htk] at hcall
    obtain ⟨e9, he9⟩ : ∃ e9, tk1 (ts.take k) ts[k] = e9 := ⟨_, rfl⟩
    rw [he9] at hcall hev
    have HCM : Hid (∀ W, Below wr.heap.size wr W → Calls Tryz.prog 52 #[.agg A.toArray, .pointer (some ⟨cb, 0, none⟩)] W (fun e w' => e = .returned (.int .i64 e9) ∧ Fr (fun i => i = mb) W w' ∧ (e9 = 0 → Nm w' mb ((ts.take (k + 1)).map Tp.n) (n0 + k + 1)))) := fun W hW => by rw [z1]; exact hcall W hW
    have HAO : Hid (A.all (·.oneCell') = true) := by show _ = _; rw [z1, hu]; rfl
    have ZA : Hid ((Tryz.prog.info? 59).map (·.size) = some A.length) := by show _ = _; rw [hAz]; kernel_rfl
    have HAL := hid hAz
    have X1_ := hid r1
    have HEV := hid hev
    have HTK := hid htk
    have i1 : (0 : Int) ≤ (k : Int) := by omega
    have i2 : (k : Int) < (n : Int) := by omega
    clear hF hI hat hrd r1 o1 hAz hev htk hx0 hcall he9 z1 hu o2
    go_wp2_with (first
      | ((with_reducible refine gLq ?_); refine wpList_load_mid (by rfl) 59 _ (by rfl) g (off + k * 2) (by rfl) A _ X1_.out Tryz.underlying59 rfl ZA.out ?_)
      | ((with_reducible refine gSq ?_); refine zB2 (by rfl) 59 _ _ (by rfl) wr.heap.size 0 _ 59 (.agg A.toArray) A (by rfl) (by rfl) (by rfl) (heap_alloc_new _ _) (by have := HAL.out; simp; omega) ZA.out HAO.out ?_; intro w1 hblk hfr; rw [zBA (by rw [HAL.out]; rfl)] at hblk; have XB : Hid (w1.rangeAt wr.heap.size 0 A) := zAL hblk; have HBW : Hid (Below wr.heap.size wr w1) := zAP hfr; clear hblk hfr)
      | ((with_reducible refine gLq ?_); refine wpList_load_mid (by rfl) 59 _ (by rfl) wr.heap.size 0 (by rfl) A _ XB.out Tryz.underlying59 rfl ZA.out ?_))
    refine (HCM.out _ HBW.out).mono ?_
    rintro e w2 ⟨rfl, hf2, hk2⟩
    have HF2 : Hid (Fr (fun i => i = mb) w w2) := HF.out.trans ((Fr.of_below HBW.out).trans hf2)
    have HK2 := hid hk2
    have HS1 := hid ((HI.out.later HBW.out))
    have HFR := hid hf2
    clear hk2 hf2
    by_cases hz : e9 = 0
    . have HE2 := HEV.out
      rw [if_neg (fun c => c hz)] at HE2
      have HE3 := hid HE2
      have HI2 := hid (show Tsc w2 cb mb ((ts.take (k + 1)).map Tp.n) (n0 + (k + 1)) from HS1.out.fr HFR.out (HK2.out hz))
      subst hz
      clear HE2 HK2 HS1 HFR
      go_wp2_with fail
      go_roundg (n + 1 - (k + 1))
      case rel => exact ⟨k + 1, by omega, rfl, by go_num, by rw [HTK.out]; exact HE3.out, HF2.out, HI2.out⟩
      case measure => omega
    . have HE2 : Hid (R = e9) := by have h := HEV.out; rw [if_pos hz] at h; exact h.symm
      have d9 : (e9 != 0) = true := by simpa using hz
      have HZ := hid hz
      clear hz HK2 HS1 HFR
      go_wp2_with fail
      go_ret
      exact ⟨zAG HE2.out.symm, HF2.out, fun c => absurd (HE2.out.symm.trans c) HZ.out⟩
  . obtain rfl : k = n := by omega
    have hw : ts.take k = ts := List.take_of_length_le (by have := HN.out; omega)
    have hd : ts.drop k = [] := List.drop_of_length_le (by have := HN.out; omega)
    rw [hd, tks] at hev
    have HE2 : Hid (R = 0) := hev.symm
    have HI2 := hid hI
    clear hev hd hF hI hw
    go_wp2_with fail
    go_ret
    exact ⟨zAG HE2.out.symm, HF.out, fun _ => HI2.out⟩
theorem zDE (ts : List Tp) (tv : Value) (w : World) (hT : Rd w (.row 59 2 (ts.map encY)) tv) (htk : Tab w 0 kpl) (htr : Tab w 1 rll) (hn : ts.length ≤ 90) :
  Calls Tryz.prog 33 #[tv] w fun e w' => e = .returned (.int .i64 (tks [] ts)) ∧ Below w.heap.size w w' := by
 have HC := hid (fun W cb mb (hs : Tsc W cb mb [] 0) hR => zE3 ts cb mb 0 tv W hs hR (by omega))
 obtain ⟨tp, tn, tc, rfl⟩ := zAC hT
 have hmm := @run_makeMap Tryz.prog
 have hb0 : Below w.heap.size w (w.alloc (.map #[] 0)) := (Below.refl _ _).alloc (Nat.le_refl _) _
 have hb1 : Below (w.alloc (.map #[] 0)).heap.size (w.alloc (.map #[] 0)) ((w.alloc (.map #[] 0)).alloc (.cells #[.map (some w.heap.size)] 139)) := (Below.refl _ _).alloc (Nat.le_refl _) _
 have hb2 : Below w.heap.size w ((w.alloc (.map #[] 0)).alloc (.cells #[.map (some w.heap.size)] 139)) := zAA hb0 hb1 (by simp)
 have HTS : Hid (Tsc ((w.alloc (.map #[] 0)).alloc (.cells #[.map (some w.heap.size)] 139)) (w.heap.size + 1) w.heap.size [] 0) := ⟨zAB (zDU _ _ _) 0, (zJ1 w).later hb1, zAH htk hb2, zAH htr hb2⟩
 have HRD := hid (hT.later hb2)
 have HB2 := hid hb2
 clear hb0 hb1 hb2 hT htk htr hn
 go_enter Tryz.func33, Tryz.ntmps33
 go_wp2_with fail
 refine (HC.out _ _ _ HTS.out HRD.out).mono ?_
 rintro e w3 ⟨rfl, hf3, _⟩
 have HB3 : Hid (Below w.heap.size w w3) := zA4 HB2.out hf3 (Nat.le_refl _)
 clear hf3
 go_wp2_with fail
 go_ret
 exact ⟨rfl, HB3.out⟩
structure Cs2 (w W : World) (us ss : List Value) (sb mb : Nat) : Prop where
  bel : Below w.heap.size w W
  b1 : W.heap[w.heap.size]? = some (.cells us.toArray 56 (0, 0))
  b2 : W.heap[sb]? = some (.cells ss.toArray 174 (0, 0))
  lo : w.heap.size < mb
  ne : sb ≠ mb
theorem Cs2.fr {w W W' : World} {us ss : List Value} {sb mb : Nat} (h : Cs2 w W us ss sb mb) (hf : Fr (fun i => i = mb) W W') : Cs2 w W' us ss sb mb :=
  ⟨zA4 h.bel hf (Nat.le_of_lt h.lo), (hf.block _ (zAE h.b1) (by have := h.lo; omega)).trans h.b1, (hf.block _ (zAE h.b2) h.ne).trans h.b2, h.lo, h.ne⟩
theorem Cs2.c1 {w W : World} {us ss : List Value} {sb mb : Nat} (h : Cs2 w W us ss sb mb) (j : Nat) : W.cell? ⟨w.heap.size, j, none⟩ = us[j]? := by rw [zAB h.b1]; simp
theorem Cs2.c2 {w W : World} {us ss : List Value} {sb mb : Nat} (h : Cs2 w W us ss sb mb) (j : Nat) : W.cell? ⟨sb, j, none⟩ = ss[j]? := by rw [zAB h.b2]; simp
theorem zJM {w w3 w4 : World} {us ss zs : List Value} (h : BlkT w w3 us 56) (hb : w4.heap[w3.heap.size + 1]? = some (.cells (ovr zs 0 ss).toArray 174 (0, 0))) (hz : ss.length = zs.length) (hf : Fr (fun i => i = w3.heap.size + 1) ((w3.alloc (.map #[] 0)).alloc (.cells zs.toArray 174)) w4) : Cs2 w w4 us ss (w3.heap.size + 1) w3.heap.size := by
  have hlt := zAE h.b1
  have hsz := h.bel.size
  have e2 : ((w3.alloc (.map #[] 0)).alloc (.cells zs.toArray 174)).heap.size = w3.heap.size + 2 := by simp
  have hb3 : Below w.heap.size w ((w3.alloc (.map #[] 0)).alloc (.cells zs.toArray 174)) := (h.bel.alloc hsz _).alloc (by simp; omega) _
  rw [zBA hz] at hb
  refine ⟨zA4 hb3 hf (by omega), (hf.block _ (by omega) (by omega)).trans ?_, hb, hlt, by omega⟩
  rw [Below.heap_alloc _ _ _ (by simp; omega), Below.heap_alloc _ _ _ hlt]
  exact h.b1
theorem zI4 {w w3 w4 : World} {us ss zs : List Value} {ts : List Tp} {tv : Value} {b : Nat} (hT : Rd w (.row 59 2 (ts.map encY)) tv) (htk : Tab w 0 kpl) (htr : Tab w 1 rll) (hc : Cs2 w w4 us ss (w3.heap.size + 1) w3.heap.size) (hfc : w3.cell? ⟨b, 0, none⟩ = some tv) (hf : Fr (fun i => i = w3.heap.size + 1) ((w3.alloc (.map #[] 0)).alloc (.cells zs.toArray 174)) w4) : Scp w4 ts tv b w3.heap.size [] 0 := by
  have hb1 : Below (w3.alloc (.map #[] 0)).heap.size (w3.alloc (.map #[] 0)) w4 := zAP (by simpa using hf)
  have hb2 : Below w3.heap.size w3 w4 := zAA ((Below.refl _ _).alloc (Nat.le_refl _) _) hb1 (by simp)
  exact ⟨hT.later hc.bel, (hb2.cell (p := ⟨b, 0, none⟩) (World.block_lt_of_cell? _ _ hfc)).trans hfc, (km_made w3).later hb1, zAH htk hc.bel, zAH htr hc.bel⟩
structure Szr (r : Rl) : Prop where
  w : ∀ t, t ∈ r.w → Wsz t.c
  t : ∀ t, t ∈ r.t → Wsz t.c
  m : ∀ x, x ∈ r.m → Wsz x.p.c
  k : ∀ x, x ∈ r.k → x.l.size ≤ maxLen ∧ x.r.size ≤ maxLen
  e : ∀ o, o ∈ r.e.v → o.va.size ≤ maxLen
theorem zBV (ts : List Tp) (r : Rl) (h1 : frn r.n = 0) (h2 : szs r) : rck ts r = if wfs 0 ts [] r.w ≠ 0 then wfs 0 ts [] r.w else if nfs 0 ts r.w (r.w.map Pt.va) r.t ≠ 0 then nfs 0 ts r.w (r.w.map Pt.va) r.t else if mfs 0 ts r.w (r.w.map Pt.va ++ r.t.map Pt.va) r.m ≠ 0 then mfs 0 ts r.w (r.w.map Pt.va ++ r.t.map Pt.va) r.m else if lfs 0 r.w r.t r.k ≠ 0 then lfs 0 r.w r.t r.k else eck ts r.w r.e.ty r.e.v := by
  unfold rck
  rw [if_neg (fun c => c h1), if_neg (fun c => c h2), zGX, zG3, zHF, zHC]
theorem zDL (ts : List Tp) (hty : ∀ i (hi : i < ts.length), tyk ts[i].n ts[i].f = 0) (r : Rl) (hzr : Szr r) (tv u1 u2 u3 u4 u5 : Value) (w : World) (hT : Rd w (.row 59 2 (ts.map encY)) tv) (htk : Tab w 0 kpl) (htr : Tab w 1 rll) (h1 : Rd w (.row 48 18 (r.w.map encP)) u1) (h2 : Rd w (.row 48 18 (r.t.map encP)) u2) (h3 : Rd w (.row 78 20 (r.m.map encM)) u3) (h4 : Rd w (.row 66 3 (r.k.map encK)) u4) (h5 : Rd w (.row 44 6 (r.e.v.map encO)) u5) (hf : frn r.n ≠ 0) :
  Calls Tryz.prog 60 #[.agg #[.string r.n, u1, u2, u3, u4, .string r.e.ty, u5], tv] w fun e w' => e = .returned (.int .i64 (rck ts r)) ∧ Below w.heap.size w w' := by
 have HCN := hid (fun W (hW : Below w.heap.size w W) => zBB r.n W (zAH htk hW) (zAH htr hW))
 have hR : rck ts r = frn r.n := by unfold rck; rw [if_pos hf]
 rw [hR]
 clear hR
 obtain ⟨tp, tn, tc, rfl⟩ := zAC hT
 obtain ⟨q1, j1, e1, _, _⟩ := zAK lenP h1
 obtain ⟨q2, j2, e2, _, _⟩ := zAK lenP h2
 obtain ⟨q3, j3, e3, _, _⟩ := zAK lenM h3
 obtain ⟨q4, j4, e4, _, _⟩ := zAK lenK h4
 obtain ⟨q5, j5, e5, _, _⟩ := zAK lenO h5
 subst e1 e2 e3 e4 e5
 obtain ⟨rn, ws, ns, ms, ks, ⟨ety, vs⟩⟩ := r
 simp only at HCN hf ⊢
 obtain ⟨E, hE⟩ : ∃ E, frn rn = E := ⟨_, rfl⟩
 rw [hE] at HCN hf ⊢
 generalize ws.length = l1
 generalize ns.length = l2
 generalize ms.length = l3
 generalize ks.length = l4
 generalize vs.length = l5
 have HT : Hid (BlkT w (w.alloc (.cells [.string rn, .slice q1 l1 j1, .slice q2 l2 j2, .slice q3 l3 j3, .slice q4 l4 j4, .string ety, .slice q5 l5 j5].toArray 56)) [.string rn, .slice q1 l1 j1, .slice q2 l2 j2, .slice q3 l3 j3, .slice q4 l4 j4, .string ety, .slice q5 l5 j5] 56) := BlkT.start w _ _
 have d9 : (E != 0) = true := by simpa using hf
 clear h1 h2 h3 h4 h5 hf hE hzr
 go_enter Tryz.func60, Tryz.ntmps60
 go_wp2_with fail
 refine (HCN.out _ HT.out.bel).mono ?_
 rintro e w1 ⟨rfl, rfl⟩
 go_wp2_with fail
 go_ret
 exact ⟨zAG rfl, HT.out.bel⟩
theorem zDD (ts : List Tp) (hty : ∀ i (hi : i < ts.length), tyk ts[i].n ts[i].f = 0) (r : Rl) (hzr : Szr r) (tv u1 u2 u3 u4 u5 : Value) (w : World) (hT : Rd w (.row 59 2 (ts.map encY)) tv) (htk : Tab w 0 kpl) (htr : Tab w 1 rll) (h1 : Rd w (.row 48 18 (r.w.map encP)) u1) (h2 : Rd w (.row 48 18 (r.t.map encP)) u2) (h3 : Rd w (.row 78 20 (r.m.map encM)) u3) (h4 : Rd w (.row 66 3 (r.k.map encK)) u4) (h5 : Rd w (.row 44 6 (r.e.v.map encO)) u5) (hf : frn r.n = 0) (hsz : ¬ szs r) :
  Calls Tryz.prog 60 #[.agg #[.string r.n, u1, u2, u3, u4, .string r.e.ty, u5], tv] w fun e w' => e = .returned (.int .i64 (rck ts r)) ∧ Below w.heap.size w w' := by
 have HCN := hid (fun W (hW : Below w.heap.size w W) => zBB r.n W (zAH htk hW) (zAH htr hW))
 rw [hf] at HCN
 have hR : rck ts r = 1 := by unfold rck; rw [if_neg (fun c => c hf), if_pos hsz]
 rw [hR]
 clear hR
 obtain ⟨tp, tn, tc, rfl⟩ := zAC hT
 obtain ⟨q1, j1, e1, _, _⟩ := zAK lenP h1
 obtain ⟨q2, j2, e2, _, _⟩ := zAK lenP h2
 obtain ⟨q3, j3, e3, _, _⟩ := zAK lenM h3
 obtain ⟨q4, j4, e4, _, _⟩ := zAK lenK h4
 obtain ⟨q5, j5, e5, _, _⟩ := zAK lenO h5
 have HIS := hid (fun W => zCY r q1 q2 q3 q4 q5 j1 j2 j3 j4 j5 r.e.v.length W false (by simpa using hsz))
 subst e1 e2 e3 e4 e5
 obtain ⟨rn, ws, ns, ms, ks, ⟨ety, vs⟩⟩ := r
 simp only at HCN HIS ⊢
 generalize ws.length = l1 at *
 generalize ns.length = l2 at *
 generalize ms.length = l3 at *
 generalize ks.length = l4 at *
 generalize vs.length = l5 at *
 have HT : Hid (BlkT w (w.alloc (.cells [.string rn, .slice q1 l1 j1, .slice q2 l2 j2, .slice q3 l3 j3, .slice q4 l4 j4, .string ety, .slice q5 l5 j5].toArray 56)) [.string rn, .slice q1 l1 j1, .slice q2 l2 j2, .slice q3 l3 j3, .slice q4 l4 j4, .string ety, .slice q5 l5 j5] 56) := BlkT.start w _ _
 have XR : Hid ((w.alloc (.cells [.string rn, .slice q1 l1 j1, .slice q2 l2 j2, .slice q3 l3 j3, .slice q4 l4 j4, .string ety, .slice q5 l5 j5].toArray 56)).rangeAt w.heap.size 0 [.string rn, .slice q1 l1 j1, .slice q2 l2 j2, .slice q3 l3 j3, .slice q4 l4 j4, .string ety, .slice q5 l5 j5]) := zAL HT.out.b1
 clear h1 h2 h3 h4 h5 hf hsz hzr
 go_enter Tryz.func60, Tryz.ntmps60
 go_wp2_with fail
 refine (HCN.out _ HT.out.bel).mono ?_
 rintro e w1 ⟨rfl, hw1⟩
 have HT1 : Hid (BlkT w w1 [.string rn, .slice q1 l1 j1, .slice q2 l2 j2, .slice q3 l3 j3, .slice q4 l4 j4, .string ety, .slice q5 l5 j5] 56) := by rw [hw1]; exact HT.out
 clear hw1 XR
 have XR : Hid (w1.rangeAt w.heap.size 0 [.string rn, .slice q1 l1 j1, .slice q2 l2 j2, .slice q3 l3 j3, .slice q4 l4 j4, .string ety, .slice q5 l5 j5]) := zAL HT1.out.b1
 go_wp2_with ((with_reducible refine gLq ?_); refine wpList_load_mid (by rfl) 56 _ (by rfl) w.heap.size 0 (by rfl) [.string rn, .slice q1 l1 j1, .slice q2 l2 j2, .slice q3 l3 j3, .slice q4 l4 j4, .string ety, .slice q5 l5 j5] _ XR.out Tryz.underlying56 rfl (by kernel_rfl) ?_)
 refine (HIS.out _).mono ?_
 rintro e w2 ⟨rfl, hb2⟩
 have HT2 : Hid _ := HT1.out.next hb2
 clear hb2 XR
 go_wp2_with fail
 go_ret
 exact ⟨rfl, HT2.out.bel⟩
theorem zDN (ts : List Tp) (hty : ∀ i (hi : i < ts.length), tyk ts[i].n ts[i].f = 0) (r : Rl) (hzr : Szr r) (tv u1 u2 u3 u4 u5 : Value) (w : World) (hT : Rd w (.row 59 2 (ts.map encY)) tv) (htk : Tab w 0 kpl) (htr : Tab w 1 rll) (h1 : Rd w (.row 48 18 (r.w.map encP)) u1) (h2 : Rd w (.row 48 18 (r.t.map encP)) u2) (h3 : Rd w (.row 78 20 (r.m.map encM)) u3) (h4 : Rd w (.row 66 3 (r.k.map encK)) u4) (h5 : Rd w (.row 44 6 (r.e.v.map encO)) u5) (hf : frn r.n = 0) (hsz : szs r) :
   Calls Tryz.prog 60 #[.agg #[.string r.n, u1, u2, u3, u4, .string r.e.ty, u5], tv] w fun e w' => e = .returned (.int .i64 (rck ts r)) ∧ Below w.heap.size w w' := by
 have HCN := hid (fun W (hW : Below w.heap.size w W) => zBB r.n W (zAH htk hW) (zAH htr hW))
 rw [hf] at HCN
 have hR := zBV ts r hf hsz
 obtain ⟨tp, tn, tc, rfl⟩ := zAC hT
 obtain ⟨q1, j1, e1, _, _⟩ := zAK lenP h1
 obtain ⟨q2, j2, e2, _, _⟩ := zAK lenP h2
 obtain ⟨q3, j3, e3, _, _⟩ := zAK lenM h3
 obtain ⟨q4, j4, e4, _, _⟩ := zAK lenK h4
 obtain ⟨q5, j5, e5, _, _⟩ := zAK lenO h5
 have HIS := hid (fun W => zCY r q1 q2 q3 q4 q5 j1 j2 j3 j4 j5 r.e.v.length W true (by simpa using hsz))
 subst e1 e2 e3 e4 e5
 have HSZ := hid hsz
 have HZR := hid hzr
 have HTK := hid htk
 have HTR := hid htr
 have HTY := hid hty
 have HTT := hid hT
 clear hf hsz hzr htk htr hty hT
 obtain ⟨rn, ws, ns, ms, ks, ⟨ety, vs⟩⟩ := r
 obtain ⟨R, hRR⟩ : ∃ R, rck ts ⟨rn, ws, ns, ms, ks, ⟨ety, vs⟩⟩ = R := ⟨_, rfl⟩
 rw [hRR] at hR ⊢
 simp only at HCN HIS hR h1 h2 h3 h4 h5 ⊢
 have HFW := hid (fun W b mb n0 lv hs hR hn => zES ts ws b mb n0 HTY.out (.slice tp tn tc) lv W hs hR HZR.out.w hn)
 have HFN := hid (fun W b mb n0 lv hkn hs hR hn => zFW ts ws ns b mb n0 hkn HTY.out (.slice tp tn tc) lv W hs hR HZR.out.t hn)
 have HFM := hid (fun W b mb n0 lv hkn hs hR hn => zER ts ws ns ms b mb n0 hkn HTY.out (.slice tp tn tc) lv W hs hR HZR.out.m hn)
 have HFL := hid (fun W b mb n0 lv hs hR hn => zEJ ts ws ns ks b mb (kw ts ws ++ (kn ts ns ++ km ts ms)) n0 (Knl_of ts ws ns ms) (.slice tp tn tc) lv W hs hR HZR.out.k hn)
 have hKW : Knw ts ws (kw ts ws ++ (kn ts ns ++ km ts ms)) := zGW (ts := ts) (ws := ws) (B := kn ts ns ++ km ts ms) (fun e he => by
   rcases List.mem_append.1 he with h | h
   . obtain ⟨x, _, rfl⟩ := List.mem_map.1 h; show (2 : Int) ≠ 1; decide
   . obtain ⟨x, _, rfl⟩ := List.mem_map.1 h; show (3 : Int) ≠ 1; decide)
 have HFE := hid (fun W b mb n0 u5 hkn hs hV => emit_any ts ws b mb (kw ts ws ++ (kn ts ns ++ km ts ms)) n0 hkn hKW HTY.out ety vs HZR.out.e (.slice tp tn tc) u5 W hs hV)
 obtain ⟨E1, hE1⟩ : ∃ E, wfs 0 ts [] ws = E := ⟨_, rfl⟩
 obtain ⟨E2, hE2⟩ : ∃ E, nfs 0 ts ws (ws.map Pt.va) ns = E := ⟨_, rfl⟩
 obtain ⟨E3, hE3⟩ : ∃ E, mfs 0 ts ws (ws.map Pt.va ++ ns.map Pt.va) ms = E := ⟨_, rfl⟩
 obtain ⟨E4, hE4⟩ : ∃ E, lfs 0 ws ns ks = E := ⟨_, rfl⟩
 obtain ⟨E5, hE5⟩ : ∃ E, eck ts ws ety vs = E := ⟨_, rfl⟩
 rw [hE1, hE2, hE3, hE4, hE5] at hR
 rw [hE1] at HFW
 rw [hE2] at HFN
 rw [hE3] at HFM
 rw [hE4] at HFL
 rw [hE5] at HFE
 rw [List.take_length] at HFW HFN HFM
 have HFD := hid (fun W => zDT tp tn tc W)
 have hmm := @run_makeMap Tryz.prog
 obtain ⟨l1, hl1⟩ : ∃ l, ws.length = l := ⟨_, rfl⟩
 obtain ⟨l2, hl2⟩ : ∃ l, ns.length = l := ⟨_, rfl⟩
 obtain ⟨l3, hl3⟩ : ∃ l, ms.length = l := ⟨_, rfl⟩
 obtain ⟨l4, hl4⟩ : ∃ l, ks.length = l := ⟨_, rfl⟩
 obtain ⟨l5, hl5⟩ : ∃ l, vs.length = l := ⟨_, rfl⟩
 have HSL : Hid (l1 ≤ 3 ∧ l2 ≤ 2 ∧ l3 ≤ 2 ∧ l4 ≤ 6) := by
   have h := HSZ.out
   unfold szs at h
   simp only at h
   show _ ∧ _
   omega
 rw [hl1, hl2, hl3, hl4, hl5] at HIS
 rw [hl1] at h1 HFW
 rw [hl2] at h2 HFN
 rw [hl3] at h3 HFM
 rw [hl4] at h4 HFL
 rw [hl5] at h5
 rw [hl1, hl2, hl3, hl4, hl5]
 have HT : Hid (BlkT w (w.alloc (.cells [.string rn, .slice q1 l1 j1, .slice q2 l2 j2, .slice q3 l3 j3, .slice q4 l4 j4, .string ety, .slice q5 l5 j5].toArray 56)) [.string rn, .slice q1 l1 j1, .slice q2 l2 j2, .slice q3 l3 j3, .slice q4 l4 j4, .string ety, .slice q5 l5 j5] 56) := BlkT.start w _ _
 have H1 := hid h1
 have H2 := hid h2
 have H3 := hid h3
 have H4 := hid h4
 have H5 := hid h5
 have HR := hid hR
 clear hl1 hl2 hl3 hl4 hl5 hE1 hE2 hE3 hE4 hE5 hRR hR h1 h2 h3 h4 h5 hKW HSZ HZR HTY
 go_enter Tryz.func60, Tryz.ntmps60
 go_wp2_with fail
 refine (HCN.out _ HT.out.bel).mono ?_
 rintro e w1 ⟨rfl, hw1⟩
 have HT1 : Hid (BlkT w w1 [.string rn, .slice q1 l1 j1, .slice q2 l2 j2, .slice q3 l3 j3, .slice q4 l4 j4, .string ety, .slice q5 l5 j5] 56) := by rw [hw1]; exact HT.out
 clear hw1
 have XR : Hid (w1.rangeAt w.heap.size 0 [.string rn, .slice q1 l1 j1, .slice q2 l2 j2, .slice q3 l3 j3, .slice q4 l4 j4, .string ety, .slice q5 l5 j5]) := zAL HT1.out.b1
 go_wp2_with ((with_reducible refine gLq ?_); refine wpList_load_mid (by rfl) 56 _ (by rfl) w.heap.size 0 (by rfl) [.string rn, .slice q1 l1 j1, .slice q2 l2 j2, .slice q3 l3 j3, .slice q4 l4 j4, .string ety, .slice q5 l5 j5] _ XR.out Tryz.underlying56 rfl (by kernel_rfl) ?_)
 refine (HIS.out _).mono ?_
 rintro e w2 ⟨rfl, hb2⟩
 have HT2 : Hid _ := HT1.out.next hb2
 clear hb2 XR
 go_wp2_with fail
 refine (HFD.out _).mono ?_
 rintro e w3 ⟨rfl, hw3⟩
 have HT3 : Hid (BlkT w w3 [.string rn, .slice q1 l1 j1, .slice q2 l2 j2, .slice q3 l3 j3, .slice q4 l4 j4, .string ety, .slice q5 l5 j5] 56) := by rw [hw3]; exact HT2.out.next ((Below.refl _ _).alloc (Nat.le_refl _) _)
 have HFC : Hid (w3.cell? ⟨w2.heap.size, 0, none⟩ = some (.slice tp tn tc)) := by rw [hw3]; exact zAB (heap_alloc_new _ _) 0
 clear hw3
 have r1 : w3.cell? ⟨w.heap.size, 1, none⟩ = some (.slice q1 l1 j1) := HT3.out.c 1
 have HLT := hid (zAE HT3.out.b1)
 go_wp2_with ((with_reducible refine gSq ?_); refine zBL 174 (w3.heap.size + 1) 0 _ 174 [.slice tp tn tc, .func (.func 95) #[] #[.pointer (some ⟨w2.heap.size, 0, none⟩)], .map (some w3.heap.size)] (zDU _ _ _) ?_; intro w4 hblk hfr; have HF4 := hid hfr; have HC4 : Hid (Cs2 w w4 [.string rn, .slice q1 l1 j1, .slice q2 l2 j2, .slice q3 l3 j3, .slice q4 l4 j4, .string ety, .slice q5 l5 j5] [.slice tp tn tc, .func (.func 95) #[] #[.pointer (some ⟨w2.heap.size, 0, none⟩)], .map (some w3.heap.size)] (w3.heap.size + 1) w3.heap.size) := zJM HT3.out hblk (by rfl) hfr; have r4 : w4.cell? ⟨w.heap.size, 1, none⟩ = some (.slice q1 l1 j1) := HC4.out.c1 1; have s0 : w4.cell? ⟨w3.heap.size + 1, 0, none⟩ = some (.slice tp tn tc) := HC4.out.c2 0; have s1 : w4.cell? ⟨w3.heap.size + 1, 1, none⟩ = some (.func (.func 95) #[] #[.pointer (some ⟨w2.heap.size, 0, none⟩)]) := HC4.out.c2 1; have s2 : w4.cell? ⟨w3.heap.size + 1, 2, none⟩ = some (.map (some w3.heap.size)) := HC4.out.c2 2; clear hblk hfr)
 have HS4 : Hid (Scp w4 ts (.slice tp tn tc) w2.heap.size w3.heap.size [] 0) := zI4 HTT.out HTK.out HTR.out HC4.out HFC.out HF4.out
 clear HF4 r1 r4 s0 s1 s2
 refine (HFW.out w4 _ _ 0 _ HS4.out (H1.out.later HC4.out.bel) (by have := HSL.out; omega)).mono ?_
 rintro e w5 ⟨rfl, hf9, hk9⟩
 have HC5 := hid (HC4.out.fr hf9)
 clear hf9
 by_cases hz : E1 = 0
 . have HS5 := hid (hk9 hz).1
   have HKN := hid (hk9 hz).2
   have HR2 := HR.out
   rw [if_neg (fun c => c hz)] at HR2
   clear HR
   have HR := hid HR2
   clear HR2 hk9
   subst hz
   have r4 : w5.cell? ⟨w.heap.size, 2, none⟩ = some (.slice q2 l2 j2) := HC5.out.c1 2
   have s0 : w5.cell? ⟨w3.heap.size + 1, 0, none⟩ = some (.slice tp tn tc) := HC5.out.c2 0
   have s1 : w5.cell? ⟨w3.heap.size + 1, 1, none⟩ = some (.func (.func 95) #[] #[.pointer (some ⟨w2.heap.size, 0, none⟩)]) := HC5.out.c2 1
   have s2 : w5.cell? ⟨w3.heap.size + 1, 2, none⟩ = some (.map (some w3.heap.size)) := HC5.out.c2 2
   go_wp2_with fail
   clear r4 s0 s1 s2
   refine (HFN.out w5 _ _ (0 + l1) _ HKN.out HS5.out (H2.out.later HC5.out.bel) (by have := HSL.out; omega)).mono ?_
   rintro e w6 ⟨rfl, hf9, hk9⟩
   have HC6 := hid (HC5.out.fr hf9)
   clear hf9
   by_cases hz : E2 = 0
   . have HS6 := hid (hk9 hz)
     have HR2 := HR.out
     rw [if_neg (fun c => c hz)] at HR2
     clear HR
     have HR := hid HR2
     clear HR2 hk9
     subst hz
     have r4 : w6.cell? ⟨w.heap.size, 3, none⟩ = some (.slice q3 l3 j3) := HC6.out.c1 3
     have s0 : w6.cell? ⟨w3.heap.size + 1, 0, none⟩ = some (.slice tp tn tc) := HC6.out.c2 0
     have s1 : w6.cell? ⟨w3.heap.size + 1, 1, none⟩ = some (.func (.func 95) #[] #[.pointer (some ⟨w2.heap.size, 0, none⟩)]) := HC6.out.c2 1
     have s2 : w6.cell? ⟨w3.heap.size + 1, 2, none⟩ = some (.map (some w3.heap.size)) := HC6.out.c2 2
     go_wp2_with fail
     clear r4 s0 s1 s2
     refine (HFM.out w6 _ _ (0 + l1 + l2) _ HKN.out HS6.out (H3.out.later HC6.out.bel) (by have := HSL.out; omega)).mono ?_
     rintro e w7 ⟨rfl, hf9, hk9⟩
     have HC7 := hid (HC6.out.fr hf9)
     clear hf9
     by_cases hz : E3 = 0
     . have HS7 := hid (hk9 hz)
       have HR2 := HR.out
       rw [if_neg (fun c => c hz)] at HR2
       clear HR
       have HR := hid HR2
       clear HR2 hk9
       subst hz
       have r4 : w7.cell? ⟨w.heap.size, 4, none⟩ = some (.slice q4 l4 j4) := HC7.out.c1 4
       have s0 : w7.cell? ⟨w3.heap.size + 1, 0, none⟩ = some (.slice tp tn tc) := HC7.out.c2 0
       have s1 : w7.cell? ⟨w3.heap.size + 1, 1, none⟩ = some (.func (.func 95) #[] #[.pointer (some ⟨w2.heap.size, 0, none⟩)]) := HC7.out.c2 1
       have s2 : w7.cell? ⟨w3.heap.size + 1, 2, none⟩ = some (.map (some w3.heap.size)) := HC7.out.c2 2
       go_wp2_with fail
       clear r4 s0 s1 s2
       refine (HFL.out w7 _ _ (0 + l1 + l2 + l3) _ HS7.out (H4.out.later HC7.out.bel) (by have := HSL.out; omega)).mono ?_
       rintro e w8 ⟨rfl, hf9, hk9⟩
       have HC8 := hid (HC7.out.fr hf9)
       clear hf9
       by_cases hz : E4 = 0
       . have HS8 := hid (hk9 hz)
         have HR2 := HR.out
         rw [if_neg (fun c => c hz)] at HR2
         clear HR
         have HR := hid HR2
         clear HR2 hk9
         subst hz
         have r4 : w8.cell? ⟨w.heap.size, 5, none⟩ = some (.string ety) := HC8.out.c1 5
         have r5 : w8.cell? ⟨w.heap.size, 6, none⟩ = some (.slice q5 l5 j5) := HC8.out.c1 6
         have s0 : w8.cell? ⟨w3.heap.size + 1, 0, none⟩ = some (.slice tp tn tc) := HC8.out.c2 0
         have s1 : w8.cell? ⟨w3.heap.size + 1, 1, none⟩ = some (.func (.func 95) #[] #[.pointer (some ⟨w2.heap.size, 0, none⟩)]) := HC8.out.c2 1
         have s2 : w8.cell? ⟨w3.heap.size + 1, 2, none⟩ = some (.map (some w3.heap.size)) := HC8.out.c2 2
         go_wp2_with fail
         clear r4 s0 s1 s2 r5
         refine (HFE.out w8 _ _ (0 + l1 + l2 + l3) _ HKN.out HS8.out (H5.out.later HC8.out.bel)).mono ?_
         rintro e w9 ⟨rfl, hb9⟩
         have HB9 := hid (zAA HC8.out.bel hb9 HC8.out.bel.size)
         clear hb9
         go_wp2_with fail
         go_ret
         exact ⟨zAG HR.out.symm, HB9.out⟩
       . have d9 : (E4 != 0) = true := by simpa using hz
         have HR2 : Hid (R = E4) := by have h := HR.out; rw [if_pos hz] at h; exact h
         clear hk9 hz HR
         go_wp2_with fail
         go_ret
         exact ⟨zAG HR2.out.symm, HC8.out.bel⟩
     . have d9 : (E3 != 0) = true := by simpa using hz
       have HR2 : Hid (R = E3) := by have h := HR.out; rw [if_pos hz] at h; exact h
       clear hk9 hz HR
       go_wp2_with fail
       go_ret
       exact ⟨zAG HR2.out.symm, HC7.out.bel⟩
   . have d9 : (E2 != 0) = true := by simpa using hz
     have HR2 : Hid (R = E2) := by have h := HR.out; rw [if_pos hz] at h; exact h
     clear hk9 hz HR
     go_wp2_with fail
     go_ret
     exact ⟨zAG HR2.out.symm, HC6.out.bel⟩
 . have d9 : (E1 != 0) = true := by simpa using hz
   have HR2 : Hid (R = E1) := by have h := HR.out; rw [if_pos hz] at h; exact h
   clear hk9 hz HR
   go_wp2_with fail
   go_ret
   exact ⟨zAG HR2.out.symm, HC5.out.bel⟩
theorem zEN (ts : List Tp) (hty : ∀ i (hi : i < ts.length), tyk ts[i].n ts[i].f = 0) (r : Rl) (hzr : Szr r) (tv u1 u2 u3 u4 u5 : Value) (w : World) (hT : Rd w (.row 59 2 (ts.map encY)) tv) (htk : Tab w 0 kpl) (htr : Tab w 1 rll) (h1 : Rd w (.row 48 18 (r.w.map encP)) u1) (h2 : Rd w (.row 48 18 (r.t.map encP)) u2) (h3 : Rd w (.row 78 20 (r.m.map encM)) u3) (h4 : Rd w (.row 66 3 (r.k.map encK)) u4) (h5 : Rd w (.row 44 6 (r.e.v.map encO)) u5) :
   Calls Tryz.prog 60 #[.agg #[.string r.n, u1, u2, u3, u4, .string r.e.ty, u5], tv] w fun e w' => e = .returned (.int .i64 (rck ts r)) ∧ Below w.heap.size w w' := by
 by_cases hf : frn r.n = 0
 . by_cases hsz : szs r
   . exact zDN ts hty r hzr tv u1 u2 u3 u4 u5 w hT htk htr h1 h2 h3 h4 h5 hf hsz
   . exact zDD ts hty r hzr tv u1 u2 u3 u4 u5 w hT htk htr h1 h2 h3 h4 h5 hf hsz
 . exact zDL ts hty r hzr tv u1 u2 u3 u4 u5 w hT htk htr h1 h2 h3 h4 h5 hf
end Go.Proofs.YtnlmknbhppdliaaGreatDoor.Chk
