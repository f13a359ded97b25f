/-
  A link, by the program.
-/
import Derived.Test.YthndlfdbmljkhaaGreatDoorDi
import Derived.Deep.QuietTactic
import Derived.BigQuiet
namespace Go.Proofs.YthndlfdbmljkhaaGreatDoor.Chk
open Go.ChangeShapes Go.WideShapes Go.ChangeAt Go.RowKit Go.Maps
set_option linter.unusedVariables false
set_option linter.unusedSimpArgs false
set_option maxRecDepth 20000
def optP (r l h : Int) : Int := if 1 ≤ r ∧ r ≤ 13 then (if 0 ≤ l ∧ l ≤ 1073741824 ∧ -1 ≤ h ∧ h ≤ 1073741824 then (if h ≠ -1 ∧ h < l then 11 else 0) else 2) else 3
theorem optP_ok {r l h : Int} (e : optP r l h = 0) : 1 ≤ r ∧ r ≤ 13 ∧ 0 ≤ l ∧ l ≤ 1073741824 ∧ (h = -1 ∨ (l ≤ h ∧ h ≤ 1073741824)) := by
  unfold optP at e
  split at e
  · split at e
    · split at e
      · simp at e
      · omega
    · simp at e
  · simp at e
theorem opt_casesP (r l h : Int) : ¬ 1 ≤ r ∨ (1 ≤ r ∧ ¬ r ≤ 13) ∨ (1 ≤ r ∧ r ≤ 13 ∧ ¬ 0 ≤ l) ∨ (1 ≤ r ∧ r ≤ 13 ∧ 0 ≤ l ∧ ¬ l ≤ 1073741824) ∨ (1 ≤ r ∧ r ≤ 13 ∧ 0 ≤ l ∧ l ≤ 1073741824 ∧ ¬ -1 ≤ h) ∨ (1 ≤ r ∧ r ≤ 13 ∧ 0 ≤ l ∧ l ≤ 1073741824 ∧ -1 ≤ h ∧ ¬ h ≤ 1073741824)
    ∨ (1 ≤ r ∧ r ≤ 13 ∧ 0 ≤ l ∧ l ≤ 1073741824 ∧ h = -1) ∨ (1 ≤ r ∧ r ≤ 13 ∧ 0 ≤ l ∧ l ≤ 1073741824 ∧ 0 ≤ h ∧ h ≤ 1073741824 ∧ l ≤ h) ∨ (1 ≤ r ∧ r ≤ 13 ∧ 0 ≤ l ∧ l ≤ 1073741824 ∧ 0 ≤ h ∧ h ≤ 1073741824 ∧ ¬ l ≤ h) := by omega
set_option maxHeartbeats 1000000 in
theorem opt_anyP (r l h : Int) (w : World) :
    Calls Tryz.prog 85 #[.agg #[.int .i64 r, .int .i64 l, .int .i64 h]] w fun e w' => e = .returned (.int .i64 (optP r l h)) ∧ Below w.heap.size w w' := by
  rcases opt_casesP r l h with h0 | ⟨h0, h1⟩ | ⟨h0, h1, h2⟩ | ⟨h0, h1, h2, h3⟩ | ⟨h0, h1, h2, h3, h4⟩ | ⟨h0, h1, h2, h3, h4, h5⟩ | ⟨h0, h1, h2, h3, h4⟩ | ⟨h0, h1, h2, h3, h4, h5, h6⟩ | ⟨h0, h1, h2, h3, h4, h5, h6⟩
  · rw [show optP r l h = 3 from by unfold optP; rw [if_neg (by omega)]]
    go_enter Tryz.func85, Tryz.ntmps85
    go_wp2
    go_ret
    exact ⟨rfl, by go_grown⟩
  · rw [show optP r l h = 3 from by unfold optP; rw [if_neg (by omega)]]
    go_enter Tryz.func85, Tryz.ntmps85
    go_wp2
    go_ret
    exact ⟨rfl, by go_grown⟩
  · rw [show optP r l h = 2 from by unfold optP; rw [if_pos (by omega), if_neg (by omega)]]
    go_enter Tryz.func85, Tryz.ntmps85
    go_wp2
    go_ret
    exact ⟨rfl, by go_grown⟩
  · rw [show optP r l h = 2 from by unfold optP; rw [if_pos (by omega), if_neg (by omega)]]
    go_enter Tryz.func85, Tryz.ntmps85
    go_wp2
    go_ret
    exact ⟨rfl, by go_grown⟩
  · rw [show optP r l h = 2 from by unfold optP; rw [if_pos (by omega), if_neg (by omega)]]
    go_enter Tryz.func85, Tryz.ntmps85
    go_wp2
    go_ret
    exact ⟨rfl, by go_grown⟩
  · rw [show optP r l h = 2 from by unfold optP; rw [if_pos (by omega), if_neg (by omega)]]
    go_enter Tryz.func85, Tryz.ntmps85
    go_wp2
    go_ret
    exact ⟨rfl, by go_grown⟩
  · rw [show optP r l h = 0 from by unfold optP; rw [if_pos (by omega), if_pos (by omega), if_neg (by omega)]]
    subst h4
    go_enter Tryz.func85, Tryz.ntmps85
    go_wp2
    go_ret
    exact ⟨rfl, by go_grown⟩
  · rw [show optP r l h = 0 from by unfold optP; rw [if_pos (by omega), if_pos (by omega), if_neg (by omega)]]
    have hn : (h != -1) = true := by simp; omega
    go_enter Tryz.func85, Tryz.ntmps85
    go_wp2
    go_ret
    exact ⟨rfl, by go_grown⟩
  · rw [show optP r l h = 11 from by unfold optP; rw [if_pos (by omega), if_pos (by omega), if_pos (by omega)]]
    have hn : (h != -1) = true := by simp; omega
    go_enter Tryz.func85, Tryz.ntmps85
    go_wp2
    go_ret
    exact ⟨rfl, by go_grown⟩
theorem ock_eq (r l h : Int) : optP r l h = ock r l h := by
  unfold optP ock
  by_cases h1 : 1 ≤ r ∧ r ≤ 13
  · have h1' : ¬ ¬ (1 ≤ r ∧ r ≤ 13) := fun c => c h1
    rw [if_pos h1, if_neg h1']
    by_cases h2 : 0 ≤ l ∧ l ≤ 1073741824 ∧ -1 ≤ h ∧ h ≤ 1073741824
    · have h3 : ¬ (¬ (0 ≤ l ∧ l ≤ 1073741824) ∨ ¬ (-1 ≤ h ∧ h ≤ 1073741824)) := by omega
      rw [if_pos h2, if_neg h3]
    · have h3 : ¬ (0 ≤ l ∧ l ≤ 1073741824) ∨ ¬ (-1 ≤ h ∧ h ≤ 1073741824) := by omega
      rw [if_neg h2, if_pos h3]
  · rw [if_neg h1, if_pos h1]
theorem checkOption_any (r l h : Int) (w : World) : Calls Tryz.prog 85 #[.agg #[.int .i64 r, .int .i64 l, .int .i64 h]] w fun e w' => e = .returned (.int .i64 (ock r l h)) ∧ Below w.heap.size w w' := by
  have := opt_anyP r l h w
  rw [ock_eq] at this
  exact this
set_option maxHeartbeats 8000000 in
theorem firstOption_any (os : List Op3) (v : Value) (w : World) (h : Rd w (.row 108 3 (os.map encQ)) v) :
    Calls Tryz.prog 140 #[v, .func (.func 85) #[] #[]] w fun e w' => e = .returned (.int .i64 (ofs os)) ∧ Below w.heap.size w w' := by
  obtain ⟨p, cap, rfl, hmx, hat⟩ := rd_row lenQ h
  have HAT : Hid (At encQ 3 w p os) := hat
  obtain ⟨n, hnl⟩ : ∃ n, os.length = n := ⟨_, rfl⟩
  have HN := hid hnl
  obtain ⟨R, hR⟩ : ∃ R, ofs os = R := ⟨_, rfl⟩
  have HR := hid hR
  rw [hR]
  rw [hnl] at hmx ⊢
  clear h hat hnl hR
  go_enter Tryz.func140, Tryz.ntmps140
  go_wp2_with fail
  go_loopg [10] (n + 1) (fun gg i wr => ∃ k : Nat, k ≤ n ∧ gg = n + 1 - k ∧ i = .int .i64 (k : Nat) ∧ ofs (os.drop k) = R ∧ Below w.heap.size w wr)
  case atStart => exact ⟨0, by omega, by omega, rfl, HR.out, Below.refl _ _⟩
  case round =>
    obtain ⟨k, hk, rfl, rfl, hof, hB⟩ := hrel
    have HB := hid hB
    by_cases hlt : k < n
    · have hkc : k < os.length := by have := HN.out; omega
      obtain ⟨g, off, rfl, hrd⟩ := HAT.out (by omega)
      obtain ⟨us, r1, o1⟩ := hrd wr hB k hkc
      rw [rdQ o1] at r1
      rw [List.drop_eq_getElem_cons hkc, ofs] at hof
      obtain ⟨⟨xr, xl, xh⟩, hd⟩ : ∃ d, os[k] = d := ⟨_, rfl⟩
      rw [hd] at r1 hof
      simp only at r1 hof
      have c0 : wr.cell? ⟨g, off + k * 3, none⟩ = some (.int .i64 xr) := by simpa using r1 0 _ rfl
      have c1 : wr.cell? ⟨g, off + k * 3 + 1, none⟩ = some (.int .i64 xl) := r1 1 _ rfl
      have c2 : wr.cell? ⟨g, off + k * 3 + 2, none⟩ = some (.int .i64 xh) := r1 2 _ rfl
      have HC := hid (fun W => checkOption_any xr xl xh W)
      obtain ⟨q, hq⟩ : ∃ q, ock xr xl xh = q := ⟨_, rfl⟩
      rw [hq] at HC hof
      have HOF := hid hof
      have HBA : Hid (Below w.heap.size w (wr.alloc (.cells #[.int .i64 xr, .int .i64 xl, .int .i64 xh] 108))) := HB.out.alloc HB.out.size _
      have i1 : (0 : Int) ≤ (k : Int) := by omega
      have i2 : (k : Int) < (n : Int) := by omega
      clear hof hB hrd o1 r1 hq hd
      by_cases hz : q = 0
      · have HO2 : Hid (ofs (os.drop (k + 1)) = R) := by have h := HOF.out; rw [if_neg (fun c => c hz)] at h; exact h
        subst hz
        go_wp2_with (go_at_call 85; refine (HC.out _).mono ?_; rintro e w2 ⟨rfl, hb2⟩; have HB2 := hid (below_trans HBA.out hb2 HBA.out.size); clear hb2)
        go_roundg (n + 1 - (k + 1))
        case rel => exact ⟨k + 1, by omega, rfl, by go_num, HO2.out, HB2.out⟩
        case measure => omega
      · have HO2 : Hid (R = q) := by have h := HOF.out; rw [if_pos hz] at h; exact h.symm
        have d1 : (q != 0) = true := by simpa using hz
        clear hz
        go_wp2_with (go_at_call 85; refine (HC.out _).mono ?_; rintro e w2 ⟨rfl, hb2⟩; have HB2 := hid (below_trans HBA.out hb2 HBA.out.size); clear hb2)
        go_ret
        exact ⟨ret_int HO2.out.symm, HB2.out⟩
    · obtain rfl : k = n := by omega
      have hd : os.drop k = [] := List.drop_of_length_le (by have := HN.out; omega)
      rw [hd, ofs] at hof
      have HO2 := hid hof
      clear hof hB hd
      go_wp2_with fail
      go_ret
      exact ⟨ret_int HO2.out, HB.out⟩
set_option maxHeartbeats 4000000 in
theorem isLinked_any (x : Int) (q : Bool) (hq : decide (x = 1 ∨ x = 2) = q) (w : World) : Calls Tryz.prog 139 #[.int .i64 x] w fun e w' => e = .returned (.bool q) ∧ w' = w := by
  subst hq
  by_cases h1 : x = 1
  · subst h1
    go_enter Tryz.func139, Tryz.ntmps139
    go_wp2_with fail
    go_ret
    exact ⟨rfl, rfl⟩
  · have d1 : (x == 1) = false := by simpa using h1
    by_cases h2 : x = 2
    · subst h2
      go_enter Tryz.func139, Tryz.ntmps139
      go_wp2_with fail
      go_ret
      exact ⟨rfl, rfl⟩
    · have d2 : (x == 2) = false := by simpa using h2
      go_enter Tryz.func139, Tryz.ntmps139
      go_wp2_with fail
      go_ret
      exact ⟨ret_bool (by simp [h1, h2]), rfl⟩
/-- What is known of whens and nots. -/
def Knl (ws ns : List Pt) (Ks : Kns) : Prop := ∀ va : ByteArray, (((lkp Ks va.data.toList).getD (0, 0)).1 = 1 ↔ 0 ≤ ptq ws va) ∧ (((lkp Ks va.data.toList).getD (0, 0)).1 = 2 ↔ ptq ws va < 0 ∧ 0 ≤ ptq ns va)
set_option maxHeartbeats 16000000 in
theorem link_any (ts : List Tp) (ws ns : List Pt) (b mb : Nat) (Ks : Kns) (n : Nat) (hkl : Knl ws ns Ks) (kl kr : ByteArray) (os : List Op3) (tv ov : Value) (w : World) (hs : Scp w ts tv b mb Ks n) (hO : Rd w (.row 108 3 (os.map encQ)) ov) (hzl : kl.size ≤ maxLen) (hzr : kr.size ≤ maxLen) :
    Calls Tryz.prog 109 #[scV tv b mb, .agg #[.string kl, ov, .string kr]] w fun e w' => e = .returned (.int .i64 (lck ws ns kl kr os)) ∧ Below w.heap.size w w' := by
  have HFO := hid (fun W (hW : Below w.heap.size w W) => firstOption_any os ov W (hO.later hW))
  obtain ⟨op, oc, rfl, hmx, _⟩ := rd_row lenQ hO
  obtain ⟨tp, tn, tc, rfl⟩ := rd_shape hs.rt
  obtain ⟨p1, p2, hp⟩ : ∃ p1 p2, (lkp Ks kl.data.toList).getD (0, 0) = (p1, p2) := ⟨_, _, rfl⟩
  obtain ⟨q1, q2, hq⟩ : ∃ q1 q2, (lkp Ks kr.data.toList).getD (0, 0) = (q1, q2) := ⟨_, _, rfl⟩
  have hL := hkl kl
  have hR := hkl kr
  rw [hp] at hL
  rw [hq] at hR
  simp only at hL hR
  obtain ⟨on, hon⟩ : ∃ l, os.length = l := ⟨_, rfl⟩
  rw [hon] at hmx HFO ⊢
  have HT : Hid (Blk2 w ((w.alloc (.cells [.slice tp tn tc, .func (.func 111) #[] #[.pointer (some ⟨b, 0, none⟩)], .map (some mb)].toArray 163)).alloc (.cells [.string kl, .slice op on oc, .string kr].toArray 103)) [.slice tp tn tc, .func (.func 111) #[] #[.pointer (some ⟨b, 0, none⟩)], .map (some mb)] [.string kl, .slice op on oc, .string kr] 163 103) := Blk2.start w _ _ _ _
  have km := (hs.later HT.out.bel).km
  have lk1 : ∀ k, (Instr.lookup 161 (.map (some mb)) (.string kl) false).run Tryz.prog (((w.alloc (.cells [.slice tp tn tc, .func (.func 111) #[] #[.pointer (some ⟨b, 0, none⟩)], .map (some mb)].toArray 163)).alloc (.cells [.string kl, .slice op on oc, .string kr].toArray 103)).drewN k) = .ok (.agg #[.int .i64 p1, .int .i64 p2]) (((w.alloc (.cells [.slice tp tn tc, .func (.func 111) #[] #[.pointer (some ⟨b, 0, none⟩)], .map (some mb)].toArray 163)).alloc (.cells [.string kl, .slice op on oc, .string kr].toArray 103)).drewN k) := fun k => by
    have := (km.later (below_drawn (Below.refl _ _) k)).look hzl
    rw [hp] at this
    exact this
  have lk2 : ∀ k, (Instr.lookup 161 (.map (some mb)) (.string kr) false).run Tryz.prog (((w.alloc (.cells [.slice tp tn tc, .func (.func 111) #[] #[.pointer (some ⟨b, 0, none⟩)], .map (some mb)].toArray 163)).alloc (.cells [.string kl, .slice op on oc, .string kr].toArray 103)).drewN k) = .ok (.agg #[.int .i64 q1, .int .i64 q2]) (((w.alloc (.cells [.slice tp tn tc, .func (.func 111) #[] #[.pointer (some ⟨b, 0, none⟩)], .map (some mb)].toArray 163)).alloc (.cells [.string kl, .slice op on oc, .string kr].toArray 103)).drewN k) := fun k => by
    have := (km.later (below_drawn (Below.refl _ _) k)).look hzr
    rw [hq] at this
    exact this
  have hfl := field_kn
  have HFB := hid (fun x q hq W => isLinked_any x q hq W)
  obtain ⟨R, hRR⟩ : ∃ R, lck ws ns kl kr os = R := ⟨_, rfl⟩
  rw [hRR]
  unfold lck at hRR
  rw [hon] at hRR
  have HR := hid hRR
  have HL := hid hL
  have HRt := hid hR
  clear hRR hL hR hkl hO hs hzl hzr hp hq hon km
  by_cases hl : p1 = 1 ∨ p1 = 2
  · by_cases hr : q1 = 1 ∨ q1 = 2
    · have hc1 : ¬ ((ptq ws kl < 0 ∧ ptq ns kl < 0) ∨ (ptq ws kr < 0 ∧ ptq ns kr < 0)) := by
        obtain ⟨a1, a2⟩ := HL.out
        obtain ⟨b1, b2⟩ := HRt.out
        omega
      have HR1 := HR.out
      rw [if_neg hc1] at HR1
      cases hsq : seq kl kr with
      | true =>
        have HRR : Hid (R = 4) := by show _ = _; rw [← HR1, if_pos (.inl hsq)]
        have d0 : (kl.toList == kr.toList) = true := hsq
        have HDL := hid (show decide (p1 = 1 ∨ p1 = 2) = true by simpa using hl)
        have HDR := hid (show decide (q1 = 1 ∨ q1 = 2) = true by simpa using hr)
        clear hl hr hc1 HR1 hsq HR HL HRt
        go_enter Tryz.func109, Tryz.ntmps109
        go_wp2_with fail
        go_quiet (fail)
        go_wp2_with fail
        refine (HFB.out _ true HDL.out _).mono ?_
        rintro e _ ⟨rfl, rfl⟩
        go_wp2_with fail
        refine (HFB.out _ true HDR.out _).mono ?_
        rintro e _ ⟨rfl, rfl⟩
        go_wp2_with fail
        go_ret
        exact ⟨ret_int HRR.out.symm, below_drawn HT.out.bel _⟩
      | false =>
        have d0 : (kl.toList == kr.toList) = false := hsq
        by_cases h22 : p1 = 2 ∧ q1 = 2
        · have HRR : Hid (R = 4) := by
            show _ = _
            obtain ⟨a1, a2⟩ := HL.out
            obtain ⟨b1, b2⟩ := HRt.out
            rw [← HR1, if_pos (.inr ⟨(a2.1 h22.1).1, (b2.1 h22.2).1⟩)]
          obtain ⟨rfl, rfl⟩ := h22
          clear hl hr hc1 HR1 hsq HR HL HRt
          go_enter Tryz.func109, Tryz.ntmps109
          go_wp2_with fail
          go_quiet (fail)
          go_wp2_with fail
          refine (HFB.out _ true (by decide) _).mono ?_
          rintro e _ ⟨rfl, rfl⟩
          go_wp2_with fail
          refine (HFB.out _ true (by decide) _).mono ?_
          rintro e _ ⟨rfl, rfl⟩
          go_wp2_with fail
          go_ret
          exact ⟨ret_int HRR.out.symm, below_drawn HT.out.bel _⟩
        · have HR2 := HR1
          rw [if_neg (by
            obtain ⟨a1, a2⟩ := HL.out
            obtain ⟨b1, b2⟩ := HRt.out
            rw [hsq]
            simp
            omega)] at HR2
          have HDL := hid (show decide (p1 = 1 ∨ p1 = 2) = true by simpa using hl)
          have HDR := hid (show decide (q1 = 1 ∨ q1 = 2) = true by simpa using hr)
          have hwy : (p1 = 2 ∧ q1 ≠ 2) ∨ p1 ≠ 2 := by omega
          have HR3 := hid HR2
          clear hl hr hc1 HR1 HR2 hsq HR HL HRt h22
          rcases (by omega : on < 1 ∨ 6 < on ∨ (1 ≤ on ∧ on ≤ 6)) with ho | ho | ho
          · have HRR : Hid (R = 1) := by show _ = _; rw [← HR3.out, if_pos (by omega)]
            have g1 : (on : Int) < 1 := by omega
            clear HR3 ho
            rcases hwy with ⟨rfl, hw⟩ | hw
            · have e2 : (q1 == 2) = false := by simpa using hw
              clear hw
              go_enter Tryz.func109, Tryz.ntmps109
              go_wp2_with fail
              go_quiet (fail)
              go_wp2_with fail
              refine (HFB.out _ true HDL.out _).mono ?_
              rintro e _ ⟨rfl, rfl⟩
              go_wp2_with fail
              refine (HFB.out _ true HDR.out _).mono ?_
              rintro e _ ⟨rfl, rfl⟩
              go_wp2_with fail
              go_ret
              exact ⟨ret_int HRR.out.symm, below_drawn HT.out.bel _⟩
            · have e2 : (p1 == 2) = false := by simpa using hw
              clear hw
              go_enter Tryz.func109, Tryz.ntmps109
              go_wp2_with fail
              go_quiet (fail)
              go_wp2_with fail
              refine (HFB.out _ true HDL.out _).mono ?_
              rintro e _ ⟨rfl, rfl⟩
              go_wp2_with fail
              refine (HFB.out _ true HDR.out _).mono ?_
              rintro e _ ⟨rfl, rfl⟩
              go_wp2_with fail
              go_ret
              exact ⟨ret_int HRR.out.symm, below_drawn HT.out.bel _⟩
          · have HRR : Hid (R = 1) := by show _ = _; rw [← HR3.out, if_pos (by omega)]
            have g1 : ¬ (on : Int) < 1 := by omega
            have g2 : (6 : Int) < (on : Int) := by omega
            clear HR3 ho
            rcases hwy with ⟨rfl, hw⟩ | hw
            · have e2 : (q1 == 2) = false := by simpa using hw
              clear hw
              go_enter Tryz.func109, Tryz.ntmps109
              go_wp2_with fail
              go_quiet (fail)
              go_wp2_with fail
              refine (HFB.out _ true HDL.out _).mono ?_
              rintro e _ ⟨rfl, rfl⟩
              go_wp2_with fail
              refine (HFB.out _ true HDR.out _).mono ?_
              rintro e _ ⟨rfl, rfl⟩
              go_wp2_with fail
              go_ret
              exact ⟨ret_int HRR.out.symm, below_drawn HT.out.bel _⟩
            · have e2 : (p1 == 2) = false := by simpa using hw
              clear hw
              go_enter Tryz.func109, Tryz.ntmps109
              go_wp2_with fail
              go_quiet (fail)
              go_wp2_with fail
              refine (HFB.out _ true HDL.out _).mono ?_
              rintro e _ ⟨rfl, rfl⟩
              go_wp2_with fail
              refine (HFB.out _ true HDR.out _).mono ?_
              rintro e _ ⟨rfl, rfl⟩
              go_wp2_with fail
              go_ret
              exact ⟨ret_int HRR.out.symm, below_drawn HT.out.bel _⟩
          · have HRR : Hid (R = ofs os) := by show _ = _; rw [← HR3.out, if_neg (by omega)]
            have g1 : ¬ (on : Int) < 1 := by omega
            have g2 : ¬ (6 : Int) < (on : Int) := by omega
            clear HR3 ho
            rcases hwy with ⟨rfl, hw⟩ | hw
            · have e2 : (q1 == 2) = false := by simpa using hw
              clear hw
              go_enter Tryz.func109, Tryz.ntmps109
              go_wp2_with fail
              go_quiet (fail)
              go_wp2_with fail
              refine (HFB.out _ true HDL.out _).mono ?_
              rintro e _ ⟨rfl, rfl⟩
              go_wp2_with fail
              refine (HFB.out _ true HDR.out _).mono ?_
              rintro e _ ⟨rfl, rfl⟩
              go_wp2_with fail
              refine (HFO.out _ (below_drawn HT.out.bel _)).mono ?_
              rintro e w2 ⟨rfl, hb2⟩
              have HB2 := hid (below_trans (below_drawn HT.out.bel _) hb2 (below_drawn HT.out.bel _).size)
              clear hb2
              go_wp2_with fail
              go_ret
              exact ⟨ret_int HRR.out.symm, HB2.out⟩
            · have e2 : (p1 == 2) = false := by simpa using hw
              clear hw
              go_enter Tryz.func109, Tryz.ntmps109
              go_wp2_with fail
              go_quiet (fail)
              go_wp2_with fail
              refine (HFB.out _ true HDL.out _).mono ?_
              rintro e _ ⟨rfl, rfl⟩
              go_wp2_with fail
              refine (HFB.out _ true HDR.out _).mono ?_
              rintro e _ ⟨rfl, rfl⟩
              go_wp2_with fail
              refine (HFO.out _ (below_drawn HT.out.bel _)).mono ?_
              rintro e w2 ⟨rfl, hb2⟩
              have HB2 := hid (below_trans (below_drawn HT.out.bel _) hb2 (below_drawn HT.out.bel _).size)
              clear hb2
              go_wp2_with fail
              go_ret
              exact ⟨ret_int HRR.out.symm, HB2.out⟩
    · have HRR : Hid (R = 6) := by
        show _ = _
        obtain ⟨b1, b2⟩ := HRt.out
        rw [← HR.out, if_pos (.inr (by omega))]
      have HDL := hid (show decide (p1 = 1 ∨ p1 = 2) = true by simpa using hl)
      have HDR := hid (show decide (q1 = 1 ∨ q1 = 2) = false by simpa using hr)
      clear hl hr HR HL HRt
      go_enter Tryz.func109, Tryz.ntmps109
      go_wp2_with fail
      go_quiet (fail)
      go_wp2_with fail
      refine (HFB.out _ true HDL.out _).mono ?_
      rintro e _ ⟨rfl, rfl⟩
      go_wp2_with fail
      refine (HFB.out _ false HDR.out _).mono ?_
      rintro e _ ⟨rfl, rfl⟩
      go_wp2_with fail
      go_ret
      exact ⟨ret_int HRR.out.symm, below_drawn HT.out.bel _⟩
  · have HRR : Hid (R = 6) := by
      show _ = _
      obtain ⟨a1, a2⟩ := HL.out
      rw [← HR.out, if_pos (.inl (by omega))]
    have HDL := hid (show decide (p1 = 1 ∨ p1 = 2) = false by simpa using hl)
    clear hl HR HL HRt
    go_enter Tryz.func109, Tryz.ntmps109
    go_wp2_with fail
    go_quiet (fail)
    go_wp2_with fail
    refine (HFB.out _ false HDL.out _).mono ?_
    rintro e _ ⟨rfl, rfl⟩
    go_wp2_with fail
    go_ret
    exact ⟨ret_int HRR.out.symm, below_drawn HT.out.bel _⟩
end Go.Proofs.YthndlfdbmljkhaaGreatDoor.Chk
