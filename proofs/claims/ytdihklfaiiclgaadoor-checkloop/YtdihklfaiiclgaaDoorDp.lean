/-
  Names that are taken; types, one by one, by the program. Fit. What the document says of values of a type. Events: CheckEvent, and what the document says of an event. What the document says of an event. Events that are only read; when conditions hold, in plain words. Conditions of raw numbers, and their contraries, in plain words. The value that a side stands for, by the program. Parts of books of raw numbers.
-/
import Derived.Test.YtdihklfaiiclgaaDoorDg
import Derived.Test.YtdihklfaiiclgaaDoorV4A
import Derived.Test.YtdihklfaiiclgaaDoorE3
namespace Go.Proofs.YtdihklfaiiclgaaDoor.Chk
open Go.ChangeShapes Go.WideShapes Go.ChangeAt Go.RowKit Go.Maps
set_option linter.unusedVariables false
set_option linter.unusedSimpArgs false
set_option maxRecDepth 20000
theorem below_fr {w W w' : World} {mb : Nat} (hb : Below w.heap.size w W) (hf : Fr (fun i => i = mb) W w') (hm : w.heap.size ≤ mb) : Below w.heap.size w w' :=
  ⟨hf.os.trans hb.os, hf.tape.trans hb.tape, hf.output.trans hb.output, Nat.le_trans hb.size hf.size, fun k hk => (hf.block k (Nat.lt_of_lt_of_le hk hb.size) (by omega)).trans (hb.block k hk)⟩
theorem ixq_any {α : Type} {q : α → Bool} : ∀ (l : List α) (n : Nat), 0 ≤ ixq q l n ↔ l.any q = true
  | [], n => by simp [ixq]
  | y :: r, n => by
    rw [ixq]
    by_cases c : q y = true
    · rw [if_pos c]; simp [c]
    · rw [if_neg c, ixq_any r (n + 1)]; simp [c]
theorem tyq_any (done : List Tp) (s : ByteArray) : 0 ≤ tyq done s ↔ (done.map Tp.n).any (fun r => seq r s) = true := by
  unfold tyq
  rw [ixq_any, List.any_map]
  rfl
/-- What is wrong with a name, where some are taken. -/
def tkn (L : List ByteArray) (s : ByteArray) : Int := if L.any (fun r => seq r s) = true then 7 else 0
set_option maxHeartbeats 8000000 in
theorem take_any (mb : Nat) (L : List ByteArray) (n : Nat) (s : ByteArray) (hs : s.size ≤ maxLen) (hn : n ≤ 100) (w : World) (h : Nm w mb L n) :
    Calls Tryd.prog 25 #[.map (some mb), .string s] w fun e w' => e = .returned (.int .i64 (tkn L s)) ∧ Fr (fun i => i = mb) w w' ∧ (tkn L s = 0 → Nm w' mb (L ++ [s]) (n + 1)) := by
  have HNM := hid h
  have HSZ := hid hs
  have HN := hid (show n ≤ 2000 by omega)
  obtain ⟨q, hq⟩ : ∃ q, L.any (fun r => seq r s) = q := ⟨_, rfl⟩
  have hq2 : L.any (fun r => r.data.toList == s.data.toList) = q := by rw [← hq]; congr 1; funext r; exact (seq_iff r s).symm
  have HQ := hid hq2
  have hR : tkn L s = if q = true then 7 else 0 := by unfold tkn; rw [hq]
  rw [hR]
  have HB := hid (fun o => (Below.refl w.heap.size w).alloc (Nat.le_refl _) o)
  clear h hs hn hq hq2 hR
  cases q with
  | true =>
    rw [if_pos rfl]
    go_enter Tryd.func25, Tryd.ntmps25
    go_wp2_with ((with_reducible show wpList _ _ _ (Oper.mk _ (.lookup _ _ _ _) _ _ _ _ :: _) _ _); refine wp_lookN (by rfl) _ _ (by rfl) mb L n (by rfl) HNM.out s HSZ.out (by rfl) true HQ.out ?_)
    go_ret
    exact ⟨rfl, Fr.of_below (HB.out _), fun c => absurd c (by decide)⟩
  | false =>
    rw [if_neg (by decide)]
    go_enter Tryd.func25, Tryd.ntmps25
    go_wp2_with (first
      | ((with_reducible show wpList _ _ _ (Oper.mk _ (.lookup _ _ _ _) _ _ _ _ :: _) _ _); refine wp_lookN (by rfl) _ _ (by rfl) mb L n (by rfl) HNM.out s HSZ.out (by rfl) false HQ.out ?_)
      | ((with_reducible show wpList _ _ _ (Oper.mk _ (.mapUpdate _ _ _ _) _ _ _ _ :: _) _ _); refine wp_storeN (by rfl) _ _ _ (by rfl) mb L n (by rfl) (HNM.out.later (HB.out _)) HN.out s HSZ.out (by rfl) (by rfl) ?_; intro w2 hn2 hf2; have HN2 := hid hn2; have HF2 := hid ((Fr.of_below (HB.out _)).trans hf2); clear hn2 hf2))
    go_ret
    exact ⟨rfl, HF2.out, fun _ => HN2.out⟩
set_option maxHeartbeats 4000000 in
theorem isKept_any (fn : ByteArray) (fk : Int) (w : World) (hk : Tab w 0 kpl) (hr : Tab w 1 rll) :
    Calls Tryd.prog 24 #[.agg #[.string fn, .int .i64 fk]] w fun e w' => e = .returned (.bool (kpt fn)) ∧ Below w.heap.size w w' := by
  have HK := hid (fun W (hW : Below w.heap.size w W) => kept_any fn W (tab_later hk hW) (tab_later hr hW))
  have HB : Hid (Below w.heap.size w (w.alloc (.cells #[.string fn, .int .i64 fk] 68))) := (Below.refl _ _).alloc (Nat.le_refl _) _
  go_enter Tryd.func24, Tryd.ntmps24
  go_wp2_with fail
  refine (HK.out _ HB.out).mono ?_
  rintro e w2 ⟨rfl, rfl⟩
  go_wp2_with fail
  go_ret
  exact ⟨rfl, HB.out⟩
set_option maxHeartbeats 8000000 in
theorem indexField_any (fs : List Fd) (v : Value) (w : World) (h : Rd w (.row 68 2 (fs.map encF)) v) (hk : Tab w 0 kpl) (hr : Tab w 1 rll) :
    Calls Tryd.prog 35 #[v, .func (.func 24) #[] #[]] w fun e w' => e = .returned (.int .i64 (ixq (fun f => kpt f.n) fs 0)) ∧ Below w.heap.size w w' := by
  obtain ⟨p, cap, rfl, hmx, hat⟩ := rd_row lenF h
  have HAT : Hid (At encF 2 w p fs) := hat
  obtain ⟨n, hnl⟩ : ∃ n, fs.length = n := ⟨_, rfl⟩
  have HN := hid hnl
  have HTK := hid hk
  have HTR := hid hr
  rw [hnl] at hmx ⊢
  clear h hat hnl hk hr
  go_enter Tryd.func35, Tryd.ntmps35
  go_wp2_with fail
  go_loopg [8] (n + 1) (fun gg i wr => ∃ k : Nat, k ≤ n ∧ gg = n + 1 - k ∧ i = .int .i64 (k : Nat) ∧ (∀ (j : Nat) (hj : j < fs.length), j < k → kpt fs[j].n = false) ∧ Below w.heap.size w wr)
  case atStart => exact ⟨0, by omega, by omega, rfl, fun j _ h => by omega, Below.refl _ _⟩
  case round =>
    obtain ⟨k, hk, rfl, rfl, hno, hB⟩ := hrel
    have HB := hid hB
    by_cases hlt : k < n
    · have hkc : k < fs.length := by have := HN.out; omega
      obtain ⟨g, off, rfl, hrd⟩ := HAT.out (by omega)
      obtain ⟨us, r1, o1⟩ := hrd wr hB k hkc
      have z1 := rdF o1
      rw [z1] at r1
      have c0 : wr.cell? ⟨g, off + k * 2, none⟩ = some (.string fs[k].n) := by simpa using r1 0 _ rfl
      have c1 : wr.cell? ⟨g, off + k * 2 + 1, none⟩ = some (.int .i64 fs[k].k) := r1 1 _ rfl
      have HCM := hid (isKept_any fs[k].n fs[k].k wr (tab_later HTK.out hB) (tab_later HTR.out hB))
      have HNO := hid hno
      obtain ⟨q, hq⟩ : ∃ q, kpt fs[k].n = q := ⟨_, rfl⟩
      have HQK : Hid (kpt fs[k].n = q) := hq
      rw [hq] at HCM
      obtain ⟨fn, hfn⟩ : ∃ fn, fs[k].n = fn := ⟨_, rfl⟩
      obtain ⟨fk, hfk⟩ : ∃ fk, fs[k].k = fk := ⟨_, rfl⟩
      rw [hfn] at c0
      rw [hfk] at c1
      rw [hfn, hfk] at HCM
      have i1 : (0 : Int) ≤ (k : Int) := by omega
      have i2 : (k : Int) < (n : Int) := by omega
      clear hno hB hrd o1 z1 r1 hq hfn hfk
      cases q with
      | true =>
        go_wp2_with (go_at_call 24; refine HCM.out.mono ?_; rintro e w2 ⟨rfl, hb2⟩; have HB2 := hid (below_trans HB.out hb2 HB.out.size); clear hb2)
        go_ret
        exact ⟨ret_int (by show (k : Int) = ixq _ _ _; rw [ixq_hit (q := fun f : Fd => kpt f.n) fs 0 k hkc (fun j hj => HNO.out j (by omega) hj) (by exact HQK.out)]; simp), HB2.out⟩
      | false =>
        go_wp2_with (go_at_call 24; refine HCM.out.mono ?_; rintro e w2 ⟨rfl, hb2⟩; have HB2 := hid (below_trans HB.out hb2 HB.out.size); clear hb2)
        go_roundg (n + 1 - (k + 1))
        case rel =>
          refine ⟨k + 1, by omega, rfl, by go_num, fun j hj hjk => ?_, HB2.out⟩
          by_cases c : j < k
          · exact HNO.out j hj c
          · obtain rfl : j = k := by omega
            exact HQK.out
        case measure => omega
    · obtain rfl : k = n := by omega
      have HR := hid (show ixq (fun f : Fd => kpt f.n) fs 0 = -1 from ixq_none _ _ (fun x hx => by
        obtain ⟨j, hj, rfl⟩ := List.getElem_of_mem hx
        exact hno j hj (by have := HN.out; omega)))
      clear hno hB
      go_wp2_with fail
      go_ret
      exact ⟨ret_int HR.out.symm, HB.out⟩
set_option maxHeartbeats 4000000 in
theorem containsField_any (fs : List Fd) (v : Value) (w : World) (q : Bool) (hq : fs.any (fun f => kpt f.n) = q) (h : Rd w (.row 68 2 (fs.map encF)) v) (hk : Tab w 0 kpl) (hr : Tab w 1 rll) :
    Calls Tryd.prog 23 #[v, .func (.func 24) #[] #[]] w fun e w' => e = .returned (.bool q) ∧ Below w.heap.size w w' := by
  have HC := hid (indexField_any fs v w h hk hr)
  obtain ⟨p, n, cap, rfl⟩ := rd_shape h
  have ha := ixq_any (q := fun f : Fd => kpt f.n) fs 0
  rw [hq] at ha
  obtain ⟨x, hx⟩ : ∃ x, ixq (fun f : Fd => kpt f.n) fs 0 = x := ⟨_, rfl⟩
  rw [hx] at ha HC
  have d : decide (0 ≤ x) = q := by cases q <;> simp_all
  clear hx hq h ha hk hr
  cases q with
  | true =>
    go_enter Tryd.func23, Tryd.ntmps23
    go_wp2_with fail
    refine HC.out.mono ?_
    rintro e w2 ⟨rfl, hb2⟩
    have HB := hid hb2
    clear hb2
    go_wp2_with fail
    go_ret
    exact ⟨rfl, HB.out⟩
  | false =>
    go_enter Tryd.func23, Tryd.ntmps23
    go_wp2_with fail
    refine HC.out.mono ?_
    rintro e w2 ⟨rfl, hb2⟩
    have HB := hid hb2
    clear hb2
    go_wp2_with fail
    go_ret
    exact ⟨rfl, HB.out⟩
/-- What is at hand while names are taken. -/
structure Tsc (w : World) (cb mb : Nat) (L : List ByteArray) (n : Nat) : Prop where
  cc : w.cell? ⟨cb, 0, none⟩ = some (.map (some mb))
  nm : Nm w mb L n
  tk : Tab w 0 kpl
  tr : Tab w 1 rll
theorem Nm.isMap {w : World} {mb : Nat} {L : List ByteArray} {n : Nat} (h : Nm w mb L n) : ∃ es c, w.heap[mb]? = some (.map es c) := by
  obtain ⟨D, ⟨es, clock, hb, _⟩, _⟩ := h
  exact ⟨es, clock, hb⟩
theorem Tsc.later {w w' : World} {cb mb n : Nat} {L : List ByteArray} (h : Tsc w cb mb L n) (hb : Below w.heap.size w w') : Tsc w' cb mb L n :=
  ⟨(hb.cell (p := ⟨cb, 0, none⟩) (World.block_lt_of_cell? _ _ h.cc)).trans h.cc, h.nm.later hb, tab_later h.tk hb, tab_later h.tr hb⟩
theorem Tsc.fr {w w' : World} {cb mb n n' : Nat} {L L' : List ByteArray} (h : Tsc w cb mb L n) (hf : Fr (fun i => i = mb) w w') (hk : Nm w' mb L' n') : Tsc w' cb mb L' n' :=
  ⟨cell_fr h.nm.isMap hf h.cc, hk, tab_fr h.nm.isMap hf h.tk (by decide), tab_fr h.nm.isMap hf h.tr (by decide)⟩
/-- What is wrong with a type behind others. -/
def tk1 (done : List Tp) (t : Tp) : Int := if tyk t.n t.f ≠ 0 then tyk t.n t.f else if kpt t.n = true then 4 else if t.f.any (fun f => kpt f.n) = true then 4 else tkn (done.map Tp.n) t.n
theorem tks_step (done : List Tp) (t : Tp) (r : List Tp) : tks done (t :: r) = if tk1 done t ≠ 0 then tk1 done t else tks (done ++ [t]) r := by
  rw [tks]
  unfold tk1 tkn
  by_cases h1 : tyk t.n t.f = 0
  · by_cases h2 : kpt t.n = true
    · simp [h1, h2]
    · by_cases h3 : t.f.any (fun f => kpt f.n) = true
      · simp only [h1, h2, h3, if_true]; simp
      · by_cases h4 : (done.map Tp.n).any (fun r => seq r t.n) = true
        · have e : (if tyk t.n t.f ≠ 0 then tyk t.n t.f else if kpt t.n = true then 4 else if t.f.any (fun f => kpt f.n) = true then 4 else if (done.map Tp.n).any (fun r => seq r t.n) = true then 7 else 0) = 7 := by rw [if_neg (fun c => c h1), if_neg h2, if_neg h3, if_pos h4]
          rw [e, if_neg (fun c => c h1), if_neg h2, if_neg h3, if_pos ((tyq_any done t.n).2 h4)]
          rfl
        · have e : (if tyk t.n t.f ≠ 0 then tyk t.n t.f else if kpt t.n = true then 4 else if t.f.any (fun f => kpt f.n) = true then 4 else if (done.map Tp.n).any (fun r => seq r t.n) = true then 7 else 0) = 0 := by rw [if_neg (fun c => c h1), if_neg h2, if_neg h3, if_neg h4]
          rw [e, if_neg (fun c => c h1), if_neg h2, if_neg h3, if_neg (fun c => h4 ((tyq_any done t.n).1 c))]
          rfl
  · simp [h1]
theorem tyk_size {n : ByteArray} {fs : List Fd} (h : tyk n fs = 0) : n.size ≤ maxLen := by
  unfold tyk at h
  have h1 : nchk n = 0 := by
    by_cases c : nchk n = 0
    · exact c
    · rw [if_pos c] at h; exact h
  unfold nchk at h1
  by_cases c : n.size < 1 ∨ 10 < n.size
  · rw [if_pos c] at h1; cases h1
  · unfold maxLen; omega
set_option maxHeartbeats 16000000 in
theorem checkType1_any (done : List Tp) (t : Tp) (fv : Value) (cb mb n : Nat) (w : World) (hs : Tsc w cb mb (done.map Tp.n) n) (hF : Rd w (.row 68 2 (t.f.map encF)) fv) (hn : n ≤ 100) :
    Calls Tryd.prog 20 #[.agg #[.string t.n, fv], .pointer (some ⟨cb, 0, none⟩)] w fun e w' => e = .returned (.int .i64 (tk1 done t)) ∧ Fr (fun i => i = mb) w w' ∧ (tk1 done t = 0 → Nm w' mb ((done ++ [t]).map Tp.n) (n + 1)) := by
  obtain ⟨fp, fn, fc, rfl⟩ := rd_shape hF
  obtain ⟨tn, tf⟩ := t
  simp only at hF ⊢
  obtain ⟨qk, hqk⟩ : ∃ q, kpt tn = q := ⟨_, rfl⟩
  obtain ⟨qa, hqa⟩ : ∃ q, tf.any (fun f => kpt f.n) = q := ⟨_, rfl⟩
  have HCT := hid (fun W (hW : Below w.heap.size w W) => checkType_p tn tf (.slice fp fn fc) W (hF.later hW))
  have HKE := hid (fun W (hW : Below w.heap.size w W) => kept_any tn W (tab_later hs.tk hW) (tab_later hs.tr hW))
  have HCF := hid (fun W (hW : Below w.heap.size w W) => containsField_any tf (.slice fp fn fc) W qa hqa (hF.later hW) (tab_later hs.tk hW) (tab_later hs.tr hW))
  have HTA := hid (fun W (hW : Below w.heap.size w W) (hz : tyk tn tf = 0) => take_any mb (done.map Tp.n) n tn (tyk_size hz) hn W (hs.nm.later hW))
  have HCC := hid (fun W (hW : Below w.heap.size w W) => (hs.later hW).cc)
  have hmp : (done ++ [(⟨tn, tf⟩ : Tp)]).map Tp.n = done.map Tp.n ++ [tn] := by rw [List.map_append]; rfl
  rw [hmp]
  unfold tk1
  simp only
  rw [hqk, hqa]
  rw [hqk] at HKE
  obtain ⟨E0, hE0⟩ : ∃ E, tyk tn tf = E := ⟨_, rfl⟩
  rw [hE0] at HCT HTA
  rw [hE0]
  obtain ⟨E3, hE3⟩ : ∃ E, tkn (done.map Tp.n) tn = E := ⟨_, rfl⟩
  rw [hE3] at HTA
  rw [hE3]
  have HT : Hid (BlkT w (w.alloc (.cells [.string tn, .slice fp fn fc].toArray 71)) [.string tn, .slice fp fn fc] 71) := BlkT.start w _ _
  clear hs hF hn hqk hqa hmp hE0 hE3
  by_cases hz : E0 = 0
  · have HZ := hid hz
    cases qk with
    | true =>
      rw [if_neg (fun c => c hz), if_pos rfl]
      subst hz
      go_enter Tryd.func20, Tryd.ntmps20
      go_wp2_with fail
      refine (HCT.out _ HT.out.bel).mono ?_
      rintro e w1 ⟨rfl, hb1⟩
      have HT1 : Hid (BlkT w w1 [.string tn, .slice fp fn fc] 71) := HT.out.next hb1
      clear hb1
      have c0 : w1.cell? ⟨w.heap.size, 0, none⟩ = some (.string tn) := HT1.out.c 0
      go_wp2_with (go_at_call 22; refine (HKE.out _ HT1.out.bel).mono ?_; rintro e w2 ⟨rfl, rfl⟩)
      go_ret
      exact ⟨rfl, Fr.of_below HT1.out.bel, fun c => absurd c (by decide)⟩
    | false =>
      cases qa with
      | true =>
        rw [if_neg (fun c => c hz), if_neg (by decide), if_pos rfl]
        subst hz
        go_enter Tryd.func20, Tryd.ntmps20
        go_wp2_with fail
        refine (HCT.out _ HT.out.bel).mono ?_
        rintro e w1 ⟨rfl, hb1⟩
        have HT1 : Hid (BlkT w w1 [.string tn, .slice fp fn fc] 71) := HT.out.next hb1
        clear hb1
        have c0 : w1.cell? ⟨w.heap.size, 0, none⟩ = some (.string tn) := HT1.out.c 0
        have c1 : w1.cell? ⟨w.heap.size, 1, none⟩ = some (.slice fp fn fc) := HT1.out.c 1
        go_wp2_with (first
          | (go_at_call 22; refine (HKE.out _ HT1.out.bel).mono ?_; rintro e w2 ⟨rfl, rfl⟩)
          | (go_at_call 23; refine (HCF.out _ HT1.out.bel).mono ?_; rintro e w2 ⟨rfl, hb2⟩; have HT2 := hid (HT1.out.next hb2); clear hb2))
        go_ret
        exact ⟨rfl, Fr.of_below HT2.out.bel, fun c => absurd c (by decide)⟩
      | false =>
        rw [if_neg (fun c => c hz), if_neg (by decide), if_neg (by decide)]
        subst hz
        go_enter Tryd.func20, Tryd.ntmps20
        go_wp2_with fail
        refine (HCT.out _ HT.out.bel).mono ?_
        rintro e w1 ⟨rfl, hb1⟩
        have HT1 : Hid (BlkT w w1 [.string tn, .slice fp fn fc] 71) := HT.out.next hb1
        clear hb1
        have c0 : w1.cell? ⟨w.heap.size, 0, none⟩ = some (.string tn) := HT1.out.c 0
        have c1 : w1.cell? ⟨w.heap.size, 1, none⟩ = some (.slice fp fn fc) := HT1.out.c 1
        go_wp2_with (first
          | (go_at_call 22; refine (HKE.out _ HT1.out.bel).mono ?_; rintro e w2 ⟨rfl, rfl⟩)
          | (go_at_call 23; refine (HCF.out _ HT1.out.bel).mono ?_; rintro e w2 ⟨rfl, hb2⟩; have HT2 := hid (HT1.out.next hb2); clear hb2; have c2 : w2.cell? ⟨w.heap.size, 0, none⟩ = some (.string tn) := HT2.out.c 0; have c3 : w2.cell? ⟨cb, 0, none⟩ = some (.map (some mb)) := HCC.out _ HT2.out.bel))
        refine (HTA.out _ HT2.out.bel HZ.out).mono ?_
        rintro e w3 ⟨rfl, hf3, hk3⟩
        have HF3 := hid ((Fr.of_below HT2.out.bel).trans hf3)
        have HK3 := hid hk3
        clear hf3 hk3
        go_wp2_with fail
        go_ret
        exact ⟨rfl, HF3.out, HK3.out⟩
  · rw [if_pos hz]
    have d9 : (E0 != 0) = true := by simpa using hz
    have HZ := hid hz
    clear hz
    go_enter Tryd.func20, Tryd.ntmps20
    go_wp2_with fail
    refine (HCT.out _ HT.out.bel).mono ?_
    rintro e w1 ⟨rfl, hb1⟩
    have HT1 : Hid (BlkT w w1 [.string tn, .slice fp fn fc] 71) := HT.out.next hb1
    clear hb1
    go_wp2_with fail
    go_ret
    exact ⟨rfl, Fr.of_below HT1.out.bel, fun c => absurd c HZ.out⟩
set_option maxHeartbeats 32000000 in
theorem firstType_any (ts : List Tp) (cb mb n0 : Nat) (lv : Value) (w : World) (hs : Tsc w cb mb [] n0) (hR : Rd w (.row 71 2 (ts.map encY)) lv) (hn : n0 + ts.length ≤ 100) :
    Calls Tryd.prog 19 #[lv, .func (.func 20) #[] #[.pointer (some ⟨cb, 0, none⟩)]] w fun e w' => e = .returned (.int .i64 (tks [] ts)) ∧ Fr (fun i => i = mb) w w' ∧ (tks [] ts = 0 → Tsc w' cb mb ((ts.take (ts.length)).map Tp.n) (n0 + (ts.length))) := by
  have HS := hid hs
  have HL := hid hR
  have HNN := hid hn
  obtain ⟨p, cap, rfl, hmx, _⟩ := rd_row lenY hR
  obtain ⟨n, hnl⟩ : ∃ n, ts.length = n := ⟨_, rfl⟩
  have HN := hid hnl
  obtain ⟨R, hRR⟩ : ∃ R, tks [] ts = R := ⟨_, rfl⟩
  have HR := hid hRR
  rw [hRR]
  rw [hnl] at hmx HL ⊢
  clear hR hs hn hnl hRR
  go_enter Tryd.func19, Tryd.ntmps19
  go_wp2_with fail
  go_loopg [10] (n + 1) (fun gg i wr => ∃ k : Nat, k ≤ n ∧ gg = n + 1 - k ∧ i = .int .i64 (k : Nat) ∧ tks (ts.take k) (ts.drop k) = R ∧ Fr (fun i => i = mb) w wr ∧ Tsc wr cb mb ((ts.take (k)).map Tp.n) (n0 + (k)))
  case atStart => exact ⟨0, by omega, by omega, rfl, by simpa using HR.out, Fr.refl _ _, by simpa using HS.out⟩
  case round =>
    obtain ⟨k, hk, rfl, rfl, hev, hF, hI⟩ := hrel
    have HF := hid hF
    have HI := hid hI
    by_cases hlt : k < n
    · have hkc : k < ts.length := by have := HN.out; omega
      obtain ⟨p', cap', e0, _, hat⟩ := rd_row lenY (HL.out.fr HS.out.nm.isMap hF)
      simp only [Value.slice.injEq] at e0
      obtain ⟨rfl, hx0, rfl⟩ := e0
      obtain ⟨g, off, rfl, hrd⟩ := hat (by omega)
      obtain ⟨A, r1, o1⟩ := hrd wr (Below.refl _ _) k hkc
      obtain ⟨fv, z1, o2⟩ := rdY o1
      obtain ⟨up, un, uc, hu⟩ := rd_shape o2
      have hAz : A.length = 2 := o1.1.symm
      rw [List.drop_eq_getElem_cons hkc, tks_step] at hev
      have htk : ts.take (k + 1) = ts.take k ++ [ts[k]] := List.take_succ_eq_append_getElem hkc
      have hcall := fun W (hW : Below wr.heap.size wr W) => checkType1_any (ts.take k) ts[k] fv cb mb (n0 + k) W (hI.later hW) (o2.later hW) (by have := HNN.out; omega)
      rw [← htk] at hcall
      obtain ⟨e9, he9⟩ : ∃ e9, tk1 (ts.take k) ts[k] = e9 := ⟨_, rfl⟩
      rw [he9] at hcall hev
      have HCM : Hid (∀ W, Below wr.heap.size wr W → Calls Tryd.prog 20 #[.agg A.toArray, .pointer (some ⟨cb, 0, none⟩)] W (fun e w' => e = .returned (.int .i64 e9) ∧ Fr (fun i => i = mb) W w' ∧ (e9 = 0 → Nm w' mb ((ts.take (k + 1)).map Tp.n) (n0 + k + 1)))) := fun W hW => by rw [z1]; exact hcall W hW
      have HAO : Hid (A.all (·.oneCell') = true) := by show _ = _; rw [z1, hu]; rfl
      have ZA : Hid ((Tryd.prog.info? 71).map (·.size) = some A.length) := by show _ = _; rw [hAz]; kernel_rfl
      have HAL := hid hAz
      have X1_ := hid r1
      have HEV := hid hev
      have HTK := hid htk
      have i1 : (0 : Int) ≤ (k : Int) := by omega
      have i2 : (k : Int) < (n : Int) := by omega
      clear hF hI hat hrd r1 o1 hAz hev htk hx0 hcall he9 z1 hu o2
      go_wp2_with (first
        | ((with_reducible show wpList _ _ _ (Oper.mk _ (.load _ _) _ _ _ _ :: _) _ _); refine wpList_load_mid (by rfl) 71 _ (by rfl) g (off + k * 2) (by rfl) A _ X1_.out Tryd.underlying71 rfl ZA.out ?_)
        | ((with_reducible show wpList _ _ _ (Oper.mk _ (.store _ _ _) _ _ _ _ :: _) _ _); refine wp_st (by rfl) 71 _ _ (by rfl) wr.heap.size 0 _ 71 (.agg A.toArray) A (by rfl) (by rfl) (by rfl) (heap_alloc_new _ _) (by have := HAL.out; simp; omega) ZA.out HAO.out ?_; intro w1 hblk hfr; rw [ovr_all (by rw [HAL.out]; rfl)] at hblk; have XB : Hid (w1.rangeAt wr.heap.size 0 A) := range_blk hblk; have HBW : Hid (Below wr.heap.size wr w1) := new_store hfr; clear hblk hfr)
        | ((with_reducible show wpList _ _ _ (Oper.mk _ (.load _ _) _ _ _ _ :: _) _ _); refine wpList_load_mid (by rfl) 71 _ (by rfl) wr.heap.size 0 (by rfl) A _ XB.out Tryd.underlying71 rfl ZA.out ?_))
      refine (HCM.out _ HBW.out).mono ?_
      rintro e w2 ⟨rfl, hf2, hk2⟩
      have HF2 : Hid (Fr (fun i => i = mb) w w2) := HF.out.trans ((Fr.of_below HBW.out).trans hf2)
      have HK2 := hid hk2
      have HS1 := hid ((HI.out.later HBW.out))
      have HFR := hid hf2
      clear hk2 hf2
      by_cases hz : e9 = 0
      · have HE2 := HEV.out
        rw [if_neg (fun c => c hz)] at HE2
        have HE3 := hid HE2
        have HI2 := hid (show Tsc w2 cb mb ((ts.take (k + 1)).map Tp.n) (n0 + (k + 1)) from HS1.out.fr HFR.out (HK2.out hz))
        subst hz
        clear HE2 HK2 HS1 HFR
        go_wp2_with fail
        go_roundg (n + 1 - (k + 1))
        case rel => exact ⟨k + 1, by omega, rfl, by go_num, by rw [HTK.out]; exact HE3.out, HF2.out, HI2.out⟩
        case measure => omega
      · have HE2 : Hid (R = e9) := by have h := HEV.out; rw [if_pos hz] at h; exact h.symm
        have d9 : (e9 != 0) = true := by simpa using hz
        have HZ := hid hz
        clear hz HK2 HS1 HFR
        go_wp2_with fail
        go_ret
        exact ⟨ret_int HE2.out.symm, HF2.out, fun c => absurd (HE2.out.symm.trans c) HZ.out⟩
    · obtain rfl : k = n := by omega
      have hw : ts.take k = ts := List.take_of_length_le (by have := HN.out; omega)
      have hd : ts.drop k = [] := List.drop_of_length_le (by have := HN.out; omega)
      rw [hd, tks] at hev
      have HE2 : Hid (R = 0) := hev.symm
      have HI2 := hid hI
      clear hev hd hF hI hw
      go_wp2_with fail
      go_ret
      exact ⟨ret_int HE2.out.symm, HF.out, fun _ => HI2.out⟩
set_option maxHeartbeats 8000000 in
theorem checkTypes_any (ts : List Tp) (tv : Value) (w : World) (hT : Rd w (.row 71 2 (ts.map encY)) tv) (htk : Tab w 0 kpl) (htr : Tab w 1 rll) (hn : ts.length ≤ 90) :
    Calls Tryd.prog 13 #[tv] w fun e w' => e = .returned (.int .i64 (tks [] ts)) ∧ Below w.heap.size w w' := by
  have HC := hid (fun W cb mb (hs : Tsc W cb mb [] 0) hR => firstType_any ts cb mb 0 tv W hs hR (by omega))
  obtain ⟨tp, tn, tc, rfl⟩ := rd_shape hT
  have hmm := @run_makeMap Tryd.prog
  have hb0 : Below w.heap.size w (w.alloc (.map #[] 0)) := (Below.refl _ _).alloc (Nat.le_refl _) _
  have hb1 : Below (w.alloc (.map #[] 0)).heap.size (w.alloc (.map #[] 0)) ((w.alloc (.map #[] 0)).alloc (.cells #[.map (some w.heap.size)] 83)) := (Below.refl _ _).alloc (Nat.le_refl _) _
  have hb2 : Below w.heap.size w ((w.alloc (.map #[] 0)).alloc (.cells #[.map (some w.heap.size)] 83)) := below_trans hb0 hb1 (by simp)
  have HTS : Hid (Tsc ((w.alloc (.map #[] 0)).alloc (.cells #[.map (some w.heap.size)] 83)) (w.heap.size + 1) w.heap.size [] 0) := ⟨cell_of_blk (heap_2 _ _ _) 0, (nm_made w).later hb1, tab_later htk hb2, tab_later htr hb2⟩
  have HRD := hid (hT.later hb2)
  have HB2 := hid hb2
  clear hb0 hb1 hb2 hT htk htr hn
  go_enter Tryd.func13, Tryd.ntmps13
  go_wp2_with fail
  refine (HC.out _ _ _ HTS.out HRD.out).mono ?_
  rintro e w3 ⟨rfl, hf3, _⟩
  have HB3 : Hid (Below w.heap.size w w3) := below_fr HB2.out hf3 (Nat.le_refl _)
  clear hf3
  go_wp2_with fail
  go_ret
  exact ⟨rfl, HB3.out⟩
end Go.Proofs.YtdihklfaiiclgaaDoor.Chk
namespace Go.Proofs.YtdihklfaiiclgaaDoor.V4
open Go.ChangeShapes Go.WideShapes Go.ChangeAt Go.RowKit
set_option linter.unusedVariables false
set_option linter.unusedSimpArgs false
set_option maxRecDepth 20000
end Go.Proofs.YtdihklfaiiclgaaDoor.V4
namespace Go.Proofs.YtdihklfaiiclgaaDoor.Chk
open Go.ChangeShapes Go.WideShapes Go.ChangeAt Go.RowKit Go.Maps
set_option linter.unusedVariables false
set_option linter.unusedSimpArgs false
set_option maxRecDepth 20000
/-- The types of all books of raw numbers. -/
def kts : List Tp := [⟨txt [97], [⟨txt [110], 1⟩]⟩, ⟨txt [98], [⟨txt [110], 1⟩, ⟨txt [115], 2⟩]⟩, ⟨txt [99], []⟩, ⟨txt [100], [⟨txt [110], 1⟩]⟩, ⟨txt [101], [⟨txt [110], 1⟩]⟩]
def ownO (nm : ByteArray) : Opd := ⟨2, 0, 0, txt [], txt [], nm⟩
def numO (n : Int) : Opd := ⟨1, 1, n, txt [], txt [], txt []⟩
def cmpC (k : Int) (a b : Opd) : Cn := ⟨k, [], a, b⟩
def grpC (k : Int) (l : List Cn) : Cn := ⟨k, l.map encC, opd0, opd0⟩
def nO : Opd := ownO (txt [110])
/-- A condition of raw numbers: of what kind, of which type, with which number, held against which side. -/
def whC (co at_ : Nat) (k : Int) (ot : Opd) : Cn :=
  if at_ = 2 then cn0
  else if co = 0 then cmpC 6 (numO k) nO
  else if co = 1 then cmpC 4 nO ot
  else if co = 2 then cmpC 5 nO ot
  else if co = 3 then grpC 2 [cmpC 4 nO (numO k), cmpC 7 nO (numO 1)]
  else if co = 4 then grpC 1 [cmpC 4 ot nO, grpC 3 [cmpC 4 nO (numO k)]]
  else if co = 5 then (if at_ = 1 then cmpC 5 (ownO (txt [115])) ⟨1, 2, 0, txt [120], txt [], txt []⟩ else cmpC 7 nO ot)
  else cn0
def tyN (at_ : Nat) : ByteArray := if at_ = 0 then txt [97] else if at_ = 1 then txt [98] else if at_ = 2 then txt [99] else txt [100]
theorem subs_grp (k : Int) (l : List Cn) : subs (grpC k l) = l := subs_of rfl
/-- Structs in new blocks, one behind the other, and what was there ahead of them. -/
structure Bxs (w0 W : World) (l : List (List Value × TypeId)) : Prop where
  bel : Below w0.heap.size w0 W
  b : ∀ i (hi : i < l.length), W.heap[w0.heap.size + i]? = some (.cells l[i].1.toArray l[i].2 (0, 0))
theorem Bxs.nil (w : World) : Bxs w w [] := ⟨Below.refl _ _, fun i hi => by simp at hi⟩
theorem Bxs.snoc {w0 W : World} {l : List (List Value × TypeId)} (h : Bxs w0 W l) (hs : W.heap.size = w0.heap.size + l.length) (us : List Value) (t : TypeId) : Bxs w0 (W.alloc (.cells us.toArray t)) (l ++ [(us, t)]) := by
  refine ⟨h.bel.alloc h.bel.size _, fun i hi => ?_⟩
  by_cases c : i < l.length
  · rw [Below.heap_alloc _ _ _ (by omega), List.getElem_append_left c]
    exact h.b i c
  · have e : i = l.length := by simp at hi; omega
    subst e
    rw [← hs]
    simpa using heap_alloc_new W (.cells us.toArray t)
theorem Bxs.next {w0 W W' : World} {l : List (List Value × TypeId)} (h : Bxs w0 W l) (hb : Below W.heap.size W W') : Bxs w0 W' l :=
  ⟨below_trans h.bel hb h.bel.size, fun i hi => (hb.block _ (blk_lt (h.b i hi))).trans (h.b i hi)⟩
theorem Bxs.c {w0 W : World} {l : List (List Value × TypeId)} (h : Bxs w0 W l) (i : Nat) (hi : i < l.length) (j : Nat) : W.cell? ⟨w0.heap.size + i, j, none⟩ = l[i].1[j]? := by rw [cell_of_blk (h.b i hi)]; simp
theorem Bxs.r {w0 W : World} {l : List (List Value × TypeId)} (h : Bxs w0 W l) (i : Nat) (hi : i < l.length) : W.rangeAt (w0.heap.size + i) 0 l[i].1 := range_blk (h.b i hi)
theorem bxs2 (w : World) (us vs : List Value) (t u : TypeId) : Bxs w ((w.alloc (.cells us.toArray t)).alloc (.cells vs.toArray u)) [(us, t), (vs, u)] := (((Bxs.nil w).snoc (by simp) us t).snoc (by simp) vs u)
theorem bxs3 (w : World) (us vs ws : List Value) (t u x : TypeId) : Bxs w (((w.alloc (.cells us.toArray t)).alloc (.cells vs.toArray u)).alloc (.cells ws.toArray x)) [(us, t), (vs, u), (ws, x)] := (((Bxs.nil w).snoc (by simp) us t).snoc (by simp) vs u).snoc (by simp) ws x
theorem bxs4 (w : World) (us vs ws zs : List Value) (t u x y : TypeId) : Bxs w ((((w.alloc (.cells us.toArray t)).alloc (.cells vs.toArray u)).alloc (.cells ws.toArray x)).alloc (.cells zs.toArray y)) [(us, t), (vs, u), (ws, x), (zs, y)] := ((((Bxs.nil w).snoc (by simp) us t).snoc (by simp) vs u).snoc (by simp) ws x).snoc (by simp) zs y
theorem tm_bd (n m : Int) (hn : n < 0) (hm : 0 < m) : 0 ≤ -((n + 1).tmod m) ∧ -((n + 1).tmod m) < m := by
  have e : -((n + 1).tmod m) = (-(n + 1)).tmod m := (Int.neg_tmod _ _).symm
  rw [e]
  exact ⟨Int.tmod_nonneg _ (by omega), Int.tmod_lt_of_pos _ hm⟩
def pkd (n m : Int) : Int := if 0 ≤ n then n % m else -((n + 1).tmod m)
theorem pkd_in (n : Int) {m : Int} (hm : 0 < m) : 0 ≤ pkd n m ∧ pkd n m < m := by
  unfold pkd
  split
  · exact ⟨Int.emod_nonneg n (by omega), Int.emod_lt_of_pos n hm⟩
  · rename_i h
    exact tm_bd n m (by omega) hm
set_option maxHeartbeats 1000000 in
theorem picked_any (n m : Int) (w : World) (hn1 : -9223372036854775808 ≤ n) (hn2 : n ≤ 9223372036854775807) (hm : 0 < m) (hm2 : m ≤ 1099511627776) :
    Calls Tryd.prog 6 #[.int .i64 n, .int .i64 m] w fun e w' => e = .returned (.int .i64 (pkd n m)) ∧ w' = w := by
  have hm0 : ¬ m = 0 := by omega
  by_cases h : 0 ≤ n
  · have HP := hid (show pkd n m = n % m by unfold pkd; rw [if_pos h])
    go_enter Tryd.func6, Tryd.ntmps6
    go_wp2
    go_ret
    rw [HP.out]
    exact ⟨rfl, rfl⟩
  · have h' : n < 0 := by omega
    have HP := hid (show pkd n m = -((n + 1).tmod m) by unfold pkd; rw [if_neg h])
    go_enter Tryd.func6, Tryd.ntmps6
    go_wp2
    go_ret
    rw [HP.out]
    exact ⟨rfl, rfl⟩
/-- A row in a new block. -/
theorem rd_blk {W : World} {b : Nat} {cs : List Value} {U e : TypeId} {z : Nat} {l : List (List Dat)} (hb : W.heap[b]? = some (.cells cs.toArray U (0, 0))) (hl : 0 < l.length) (hm : l.length ≤ maxLen) (h : RdL W l.flatten cs) : Rd W (.row e z l) (.slice (some ⟨b, 0, none⟩) l.length l.length) :=
  Rd.row (w := W) e z l b 0 l.length cs hl (Nat.le_refl _) hm (fun j u hu => by rw [Nat.zero_add, cell_of_blk hb]; simpa using hu) h.1 h.2
section
variable {P : Program} {ops : Array Oper} {rest : List Oper} {o : Oper} {a : Act} {w : World} {Q : Exit → Act → World → Prop}
/-- A slice that is built: its block under a letter. -/
theorem wp_bsA (hgd : o.guard = none) (t : TypeId) (n : Nat) (parts : Array (Nat × Operand)) (ho : o.op = .buildSlice t n parts) (vals : Array (Nat × Value)) (hp : (parts.map fun x => (x.1, a.eval x.2)) = vals) (cs : List Value) (U : TypeId) (hv : ∀ w, (Instr.buildSlice t n vals).run P w = .ok (.slice (some ⟨w.heap.size, 0, none⟩) n n) (w.alloc (.cells cs.toArray U)))
    (h : ∀ b w', w'.heap[b]? = some (.cells cs.toArray U (0, 0)) → Below w.heap.size w w' → wpList P ops Q rest (a.put o.dst (.slice (some ⟨b, 0, none⟩) n n)) w') : wpList P ops Q (o :: rest) a w := by
  refine wpList_plain hgd fun K hK => ?_
  unfold Oper.wp execOp
  simp only [ho, Sem.run_bind, hp, hv, Result.andThen_ok, Sem.run_pure]
  exact hK _ _ (h _ _ (heap_alloc_new _ _) ((Below.refl _ _).alloc (Nat.le_refl _) _))
end
set_option maxHeartbeats 4000000 in
theorem own_any (nm : ByteArray) (w : World) : Calls Tryd.prog 8 #[.string nm] w fun e w' => e = .returned (opV (ownO nm)) ∧ Below w.heap.size w w' := by
  go_enter Tryd.func8, Tryd.ntmps8
  go_wp2_with (first
    | ((with_reducible show wpList _ _ _ (Oper.mk (some 4) _ _ _ _ _ :: _) _ _); refine wp_bdq (by rfl) 42 _ (by rfl) #[(0, .int .i64 2), (3, .string nm)] (by simp [Act.eval, Act.put]) (.agg #[.int .i64 2, .int .i64 0, .int .i64 0, .string ⟨#[]⟩, .string ⟨#[]⟩, .string nm]) (fun w => by kernel_rfl) ?_)
    | ((with_reducible show wpList _ _ _ (Oper.mk _ (.store _ _ _) _ _ _ _ :: _) _ _); refine wp_st (by rfl) 42 _ _ (by rfl) (w.heap.size) 0 [.int .i64 0, .int .i64 0, .int .i64 0, .string ⟨#[]⟩, .string ⟨#[]⟩, .string ⟨#[]⟩] 42 (.agg #[.int .i64 2, .int .i64 0, .int .i64 0, .string ⟨#[]⟩, .string ⟨#[]⟩, .string nm]) [.int .i64 2, .int .i64 0, .int .i64 0, .string ⟨#[]⟩, .string ⟨#[]⟩, .string nm] (by rfl) (by rfl) (by rfl) (heap_alloc_new _ _) (by simp) (by kernel_rfl) (by rfl) ?_; intro w2 hblk hfr; have HW2 := hid hblk; have HBE : Hid (Below w.heap.size w w2) := new_store hfr; clear hblk hfr))
  exact ret_loc w.heap.size [.int .i64 2, .int .i64 0, .int .i64 0, .string ⟨#[]⟩, .string ⟨#[]⟩, .string nm] 42 _ HW2.out rfl rfl (by rfl) Tryd.underlying42 rfl (by kernel_rfl) ⟨rfl, HBE.out⟩
set_option maxHeartbeats 4000000 in
theorem number_any (n : Int) (w : World) : Calls Tryd.prog 9 #[.int .i64 n] w fun e w' => e = .returned (opV (numO n)) ∧ Below w.heap.size w w' := by
  go_enter Tryd.func9, Tryd.ntmps9
  go_wp2_with (first
    | ((with_reducible show wpList _ _ _ (Oper.mk (some 4) _ _ _ _ _ :: _) _ _); refine wp_bdq (by rfl) 40 _ (by rfl) #[(0, .int .i64 1), (1, .int .i64 n)] (by simp [Act.eval, Act.put]) (.agg #[.int .i64 1, .int .i64 n, .string ⟨#[]⟩]) (fun w => by kernel_rfl) ?_)
    | ((with_reducible show wpList _ _ _ (Oper.mk (some 5) _ _ _ _ _ :: _) _ _); refine wp_bdq (by rfl) 42 _ (by rfl) #[(0, .int .i64 1), (1, .agg #[.int .i64 1, .int .i64 n, .string ⟨#[]⟩])] (by simp [Act.eval, Act.put]) (.agg #[.int .i64 1, .int .i64 1, .int .i64 n, .string ⟨#[]⟩, .string ⟨#[]⟩, .string ⟨#[]⟩]) (fun w => by kernel_rfl) ?_)
    | ((with_reducible show wpList _ _ _ (Oper.mk _ (.store _ _ _) _ _ _ _ :: _) _ _); refine wp_st (by rfl) 42 _ _ (by rfl) (w.heap.size) 0 [.int .i64 0, .int .i64 0, .int .i64 0, .string ⟨#[]⟩, .string ⟨#[]⟩, .string ⟨#[]⟩] 42 (.agg #[.int .i64 1, .int .i64 1, .int .i64 n, .string ⟨#[]⟩, .string ⟨#[]⟩, .string ⟨#[]⟩]) [.int .i64 1, .int .i64 1, .int .i64 n, .string ⟨#[]⟩, .string ⟨#[]⟩, .string ⟨#[]⟩] (by rfl) (by rfl) (by rfl) (heap_alloc_new _ _) (by simp) (by kernel_rfl) (by rfl) ?_; intro w2 hblk hfr; have HW2 := hid hblk; have HBE : Hid (Below w.heap.size w w2) := new_store hfr; clear hblk hfr))
  exact ret_loc w.heap.size [.int .i64 1, .int .i64 1, .int .i64 n, .string ⟨#[]⟩, .string ⟨#[]⟩, .string ⟨#[]⟩] 42 _ HW2.out rfl rfl (by rfl) Tryd.underlying42 rfl (by kernel_rfl) ⟨rfl, HBE.out⟩
set_option maxHeartbeats 8000000 in
theorem compare_any (k : Int) (a b : Opd) (w : World) : Calls Tryd.prog 7 #[.int .i64 k, opV a, opV b] w fun e w' => e = .returned (cnV k (.slice none 0 0) a b) ∧ Below w.heap.size w w' := by
  obtain ⟨ak, avk, avi, avt, ava, afd⟩ := a
  obtain ⟨bk, bvk, bvi, bvt, bva, bfd⟩ := b
  have hB := bxs3 w [.int .i64 ak, .int .i64 avk, .int .i64 avi, .string avt, .string ava, .string afd] [.int .i64 bk, .int .i64 bvk, .int .i64 bvi, .string bvt, .string bva, .string bfd] [.int .i64 0, .slice none 0 0, .int .i64 0, .int .i64 0, .int .i64 0, .string ⟨#[]⟩, .string ⟨#[]⟩, .string ⟨#[]⟩, .int .i64 0, .int .i64 0, .int .i64 0, .string ⟨#[]⟩, .string ⟨#[]⟩, .string ⟨#[]⟩] 42 42 44
  have X0 := hid (hB.r 0 (by simp))
  have X1 := hid (hB.r 1 (by simp))
  have HZ := hid (hB.b 2 (by simp))
  have HB := hid hB.bel
  clear hB
  go_enter Tryd.func7, Tryd.ntmps7
  go_wp2_with (first
    | ((with_reducible show wpList _ _ _ (Oper.mk (some 8) _ _ _ _ _ :: _) _ _); refine wpList_load_mid (by rfl) 42 _ (by rfl) w.heap.size 0 (by rfl) [.int .i64 ak, .int .i64 avk, .int .i64 avi, .string avt, .string ava, .string afd] _ X0.out Tryd.underlying42 rfl (by kernel_rfl) ?_)
    | ((with_reducible show wpList _ _ _ (Oper.mk (some 9) _ _ _ _ _ :: _) _ _); refine wpList_load_mid (by rfl) 42 _ (by rfl) (w.heap.size + 1) 0 (by rfl) [.int .i64 bk, .int .i64 bvk, .int .i64 bvi, .string bvt, .string bva, .string bfd] _ X1.out Tryd.underlying42 rfl (by kernel_rfl) ?_)
    | ((with_reducible show wpList _ _ _ (Oper.mk (some 10) _ _ _ _ _ :: _) _ _); refine wp_bdq (by rfl) 44 _ (by rfl) #[(0, .int .i64 k), (2, .agg #[.int .i64 ak, .int .i64 avk, .int .i64 avi, .string avt, .string ava, .string afd]), (3, .agg #[.int .i64 bk, .int .i64 bvk, .int .i64 bvi, .string bvt, .string bva, .string bfd])] (by simp [Act.eval, Act.put]) (.agg #[.int .i64 k, .slice none 0 0, .int .i64 ak, .int .i64 avk, .int .i64 avi, .string avt, .string ava, .string afd, .int .i64 bk, .int .i64 bvk, .int .i64 bvi, .string bvt, .string bva, .string bfd]) (fun w => by kernel_rfl) ?_)
    | ((with_reducible show wpList _ _ _ (Oper.mk _ (.store _ _ _) _ _ _ _ :: _) _ _); refine wp_st (by rfl) 44 _ _ (by rfl) (w.heap.size + 2) 0 _ 44 (.agg #[.int .i64 k, .slice none 0 0, .int .i64 ak, .int .i64 avk, .int .i64 avi, .string avt, .string ava, .string afd, .int .i64 bk, .int .i64 bvk, .int .i64 bvi, .string bvt, .string bva, .string bfd]) [.int .i64 k, .slice none 0 0, .int .i64 ak, .int .i64 avk, .int .i64 avi, .string avt, .string ava, .string afd, .int .i64 bk, .int .i64 bvk, .int .i64 bvi, .string bvt, .string bva, .string bfd] (by rfl) (by rfl) (by rfl) HZ.out (by simp) (by kernel_rfl) (by rfl) ?_; intro w2 hblk hfr; have HW2 := hid hblk; have HBE : Hid (Below w.heap.size w w2) := below_fr HB.out hfr (by omega); clear hblk hfr))
  exact ret_loc (w.heap.size + 2) [.int .i64 k, .slice none 0 0, .int .i64 ak, .int .i64 avk, .int .i64 avi, .string avt, .string ava, .string afd, .int .i64 bk, .int .i64 bvk, .int .i64 bvi, .string bvt, .string bva, .string bfd] 44 _ HW2.out rfl rfl (by rfl) Tryd.underlying44 rfl (by kernel_rfl) ⟨rfl, HBE.out⟩
theorem sv_cmp {w : World} (k : Int) (a b : Opd) : RdL w (encC (cmpC k a b)) (cnC k (.slice none 0 0) a b) := .cons (.lit _) (.cons (.nil _ _ none 0 (Nat.zero_le _)) (rdl_lits [.int .i64 a.k, .int .i64 a.vk, .int .i64 a.vi, .string a.vt, .string a.va, .string a.fd, .int .i64 b.k, .int .i64 b.vk, .int .i64 b.vi, .string b.vt, .string b.va, .string b.fd]))
/-- The types of all books, in five blocks one behind the other. -/
def Tys (W : World) (b : Nat) : Prop := W.heap[b]? = some (.cells #[.string ⟨#[110]⟩, .int .i64 1] 68 (0, 0)) ∧ W.heap[b + 1]? = some (.cells #[.string ⟨#[110]⟩, .int .i64 1, .string ⟨#[115]⟩, .int .i64 2] 68 (0, 0)) ∧ W.heap[b + 2]? = some (.cells #[.string ⟨#[110]⟩, .int .i64 1] 68 (0, 0)) ∧ W.heap[b + 3]? = some (.cells #[.string ⟨#[110]⟩, .int .i64 1] 68 (0, 0)) ∧ W.heap[b + 4]? = some (.cells #[.string ⟨#[97]⟩, .slice (some ⟨b, 0, none⟩) 1 1, .string ⟨#[98]⟩, .slice (some ⟨b + 1, 0, none⟩) 2 2, .string ⟨#[99]⟩, .slice none 0 0, .string ⟨#[100]⟩, .slice (some ⟨b + 2, 0, none⟩) 1 1, .string ⟨#[101]⟩, .slice (some ⟨b + 3, 0, none⟩) 1 1] 71 (0, 0))
theorem Tys.later {W W' : World} {b : Nat} (h : Tys W b) (hb : ∀ i o, W.heap[i]? = some o → b ≤ i → i < b + 5 → W'.heap[i]? = some o) : Tys W' b := ⟨hb _ _ h.1 (by omega) (by omega), hb _ _ h.2.1 (by omega) (by omega), hb _ _ h.2.2.1 (by omega) (by omega), hb _ _ h.2.2.2.1 (by omega) (by omega), hb _ _ h.2.2.2.2 (by omega) (by omega)⟩
theorem Tys.rd {W : World} {b : Nat} (h : Tys W b) : Rd W (.row 71 2 (kts.map encY)) (.slice (some ⟨b + 4, 0, none⟩) 5 5) := by
  obtain ⟨h0, h1, h2, h3, h4⟩ := h
  have r0 : Rd W (.row 68 2 (([⟨txt [110], 1⟩] : List Fd).map encF)) (.slice (some ⟨b, 0, none⟩) 1 1) := rd_blk (l := ([⟨txt [110], 1⟩] : List Fd).map encF) h0 (by decide) (by decide) (rdl_lits [.string (txt [110]), .int .i64 1])
  have r1 : Rd W (.row 68 2 (([⟨txt [110], 1⟩, ⟨txt [115], 2⟩] : List Fd).map encF)) (.slice (some ⟨b + 1, 0, none⟩) 2 2) := rd_blk (l := ([⟨txt [110], 1⟩, ⟨txt [115], 2⟩] : List Fd).map encF) h1 (by decide) (by decide) (rdl_lits [.string (txt [110]), .int .i64 1, .string (txt [115]), .int .i64 2])
  have r2 : Rd W (.row 68 2 (([⟨txt [110], 1⟩] : List Fd).map encF)) (.slice (some ⟨b + 2, 0, none⟩) 1 1) := rd_blk (l := ([⟨txt [110], 1⟩] : List Fd).map encF) h2 (by decide) (by decide) (rdl_lits [.string (txt [110]), .int .i64 1])
  have r3 : Rd W (.row 68 2 (([⟨txt [110], 1⟩] : List Fd).map encF)) (.slice (some ⟨b + 3, 0, none⟩) 1 1) := rd_blk (l := ([⟨txt [110], 1⟩] : List Fd).map encF) h3 (by decide) (by decide) (rdl_lits [.string (txt [110]), .int .i64 1])
  have rc : Rd W (.row 68 2 (([] : List Fd).map encF)) (.slice none 0 0) := .nil _ _ none 0 (Nat.zero_le _)
  exact rd_blk (l := kts.map encY) h4 (by decide) (by decide) (.cons (.lit _) (.cons r0 (.cons (.lit _) (.cons r1 (.cons (.lit _) (.cons rc (.cons (.lit _) (.cons r2 (.cons (.lit _) (.cons r3 (RdL.nil _)))))))))))
set_option maxHeartbeats 16000000 in
theorem types_any (w : World) : Calls Tryd.prog 11 #[] w fun e w' => ∃ b, e = .returned (.slice (some ⟨b + 4, 0, none⟩) 5 5) ∧ w.heap.size ≤ b ∧ Tys w' b ∧ Below w.heap.size w w' := by
  have hB := (bxs4 w [.string ⟨#[110]⟩, .int .i64 1] [.string ⟨#[110]⟩, .int .i64 1, .string ⟨#[115]⟩, .int .i64 2] [.string ⟨#[110]⟩, .int .i64 1] [.string ⟨#[110]⟩, .int .i64 1] 68 68 68 68).snoc (by simp) [.string ⟨#[97]⟩, .slice (some ⟨w.heap.size, 0, none⟩) 1 1, .string ⟨#[98]⟩, .slice (some ⟨w.heap.size + 1, 0, none⟩) 2 2, .string ⟨#[99]⟩, .slice none 0 0, .string ⟨#[100]⟩, .slice (some ⟨w.heap.size + 1 + 1, 0, none⟩) 1 1, .string ⟨#[101]⟩, .slice (some ⟨w.heap.size + 1 + 1 + 1, 0, none⟩) 1 1] 71
  have HT := hid (show Tys _ w.heap.size from ⟨hB.b 0 (by simp), hB.b 1 (by simp), hB.b 2 (by simp), hB.b 3 (by simp), hB.b 4 (by simp)⟩)
  have HB := hid hB.bel
  clear hB
  go_enter Tryd.func11, Tryd.ntmps11
  go_wp2_with fail
  go_ret
  exact ⟨w.heap.size, rfl, Nat.le_refl _, HT.out, HB.out⟩
end Go.Proofs.YtdihklfaiiclgaaDoor.Chk
