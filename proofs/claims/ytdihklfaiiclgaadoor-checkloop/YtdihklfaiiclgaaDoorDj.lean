/-
  A link, by the program. What is emitted, by the program.
-/
import Derived.Deep.QuietTactic
import Derived.BigQuiet
import Derived.Test.YtdihklfaiiclgaaDoorKq
namespace Go.Proofs.YtdihklfaiiclgaaDoor.Chk
open Go.ChangeShapes Go.WideShapes Go.ChangeAt Go.RowKit Go.Maps
set_option linter.unusedVariables false
set_option linter.unusedSimpArgs false
set_option maxRecDepth 20000
def optP (r l h : Int) : Int := if 1 ≤ r ∧ r ≤ 13 then (if 0 ≤ l ∧ l ≤ 1073741824 ∧ -1 ≤ h ∧ h ≤ 1073741824 then (if h ≠ -1 ∧ h < l then 11 else 0) else 2) else 3
theorem opt_casesP (r l h : Int) : ¬ 1 ≤ r ∨ (1 ≤ r ∧ ¬ r ≤ 13) ∨ (1 ≤ r ∧ r ≤ 13 ∧ ¬ 0 ≤ l) ∨ (1 ≤ r ∧ r ≤ 13 ∧ 0 ≤ l ∧ ¬ l ≤ 1073741824) ∨ (1 ≤ r ∧ r ≤ 13 ∧ 0 ≤ l ∧ l ≤ 1073741824 ∧ ¬ -1 ≤ h) ∨ (1 ≤ r ∧ r ≤ 13 ∧ 0 ≤ l ∧ l ≤ 1073741824 ∧ -1 ≤ h ∧ ¬ h ≤ 1073741824)
    ∨ (1 ≤ r ∧ r ≤ 13 ∧ 0 ≤ l ∧ l ≤ 1073741824 ∧ h = -1) ∨ (1 ≤ r ∧ r ≤ 13 ∧ 0 ≤ l ∧ l ≤ 1073741824 ∧ 0 ≤ h ∧ h ≤ 1073741824 ∧ l ≤ h) ∨ (1 ≤ r ∧ r ≤ 13 ∧ 0 ≤ l ∧ l ≤ 1073741824 ∧ 0 ≤ h ∧ h ≤ 1073741824 ∧ ¬ l ≤ h) := by omega
set_option maxHeartbeats 1000000 in
theorem opt_anyP (r l h : Int) (w : World) :
    Calls Tryd.prog 58 #[.agg #[.int .i64 r, .int .i64 l, .int .i64 h]] w fun e w' => e = .returned (.int .i64 (optP r l h)) ∧ Below w.heap.size w w' := by
  rcases opt_casesP r l h with h0 | ⟨h0, h1⟩ | ⟨h0, h1, h2⟩ | ⟨h0, h1, h2, h3⟩ | ⟨h0, h1, h2, h3, h4⟩ | ⟨h0, h1, h2, h3, h4, h5⟩ | ⟨h0, h1, h2, h3, h4⟩ | ⟨h0, h1, h2, h3, h4, h5, h6⟩ | ⟨h0, h1, h2, h3, h4, h5, h6⟩
  · rw [show optP r l h = 3 from by unfold optP; rw [if_neg (by omega)]]
    go_enter Tryd.func58, Tryd.ntmps58
    go_wp2
    go_ret
    exact ⟨rfl, by go_grown⟩
  · rw [show optP r l h = 3 from by unfold optP; rw [if_neg (by omega)]]
    go_enter Tryd.func58, Tryd.ntmps58
    go_wp2
    go_ret
    exact ⟨rfl, by go_grown⟩
  · rw [show optP r l h = 2 from by unfold optP; rw [if_pos (by omega), if_neg (by omega)]]
    go_enter Tryd.func58, Tryd.ntmps58
    go_wp2
    go_ret
    exact ⟨rfl, by go_grown⟩
  · rw [show optP r l h = 2 from by unfold optP; rw [if_pos (by omega), if_neg (by omega)]]
    go_enter Tryd.func58, Tryd.ntmps58
    go_wp2
    go_ret
    exact ⟨rfl, by go_grown⟩
  · rw [show optP r l h = 2 from by unfold optP; rw [if_pos (by omega), if_neg (by omega)]]
    go_enter Tryd.func58, Tryd.ntmps58
    go_wp2
    go_ret
    exact ⟨rfl, by go_grown⟩
  · rw [show optP r l h = 2 from by unfold optP; rw [if_pos (by omega), if_neg (by omega)]]
    go_enter Tryd.func58, Tryd.ntmps58
    go_wp2
    go_ret
    exact ⟨rfl, by go_grown⟩
  · rw [show optP r l h = 0 from by unfold optP; rw [if_pos (by omega), if_pos (by omega), if_neg (by omega)]]
    subst h4
    go_enter Tryd.func58, Tryd.ntmps58
    go_wp2
    go_ret
    exact ⟨rfl, by go_grown⟩
  · rw [show optP r l h = 0 from by unfold optP; rw [if_pos (by omega), if_pos (by omega), if_neg (by omega)]]
    have hn : (h != -1) = true := by simp; omega
    go_enter Tryd.func58, Tryd.ntmps58
    go_wp2
    go_ret
    exact ⟨rfl, by go_grown⟩
  · rw [show optP r l h = 11 from by unfold optP; rw [if_pos (by omega), if_pos (by omega), if_pos (by omega)]]
    have hn : (h != -1) = true := by simp; omega
    go_enter Tryd.func58, Tryd.ntmps58
    go_wp2
    go_ret
    exact ⟨rfl, by go_grown⟩
theorem ock_eq (r l h : Int) : optP r l h = ock r l h := by
  unfold optP ock
  by_cases h1 : 1 ≤ r ∧ r ≤ 13
  · have h1' : ¬ ¬ (1 ≤ r ∧ r ≤ 13) := fun c => c h1
    rw [if_pos h1, if_neg h1']
    by_cases h2 : 0 ≤ l ∧ l ≤ 1073741824 ∧ -1 ≤ h ∧ h ≤ 1073741824
    · have h3 : ¬ (¬ (0 ≤ l ∧ l ≤ 1073741824) ∨ ¬ (-1 ≤ h ∧ h ≤ 1073741824)) := by omega
      rw [if_pos h2, if_neg h3]
    · have h3 : ¬ (0 ≤ l ∧ l ≤ 1073741824) ∨ ¬ (-1 ≤ h ∧ h ≤ 1073741824) := by omega
      rw [if_neg h2, if_pos h3]
  · rw [if_neg h1, if_pos h1]
theorem checkOption_any (r l h : Int) (w : World) : Calls Tryd.prog 58 #[.agg #[.int .i64 r, .int .i64 l, .int .i64 h]] w fun e w' => e = .returned (.int .i64 (ock r l h)) ∧ Below w.heap.size w w' := by
  have := opt_anyP r l h w
  rw [ock_eq] at this
  exact this
set_option maxHeartbeats 8000000 in
theorem firstOption_any (os : List Op3) (v : Value) (w : World) (h : Rd w (.row 51 3 (os.map encQ)) v) :
    Calls Tryd.prog 57 #[v, .func (.func 58) #[] #[]] w fun e w' => e = .returned (.int .i64 (ofs os)) ∧ Below w.heap.size w w' := by
  obtain ⟨p, cap, rfl, hmx, hat⟩ := rd_row lenQ h
  have HAT : Hid (At encQ 3 w p os) := hat
  obtain ⟨n, hnl⟩ : ∃ n, os.length = n := ⟨_, rfl⟩
  have HN := hid hnl
  obtain ⟨R, hR⟩ : ∃ R, ofs os = R := ⟨_, rfl⟩
  have HR := hid hR
  rw [hR]
  rw [hnl] at hmx ⊢
  clear h hat hnl hR
  go_enter Tryd.func57, Tryd.ntmps57
  go_wp2_with fail
  go_loopg [10] (n + 1) (fun gg i wr => ∃ k : Nat, k ≤ n ∧ gg = n + 1 - k ∧ i = .int .i64 (k : Nat) ∧ ofs (os.drop k) = R ∧ Below w.heap.size w wr)
  case atStart => exact ⟨0, by omega, by omega, rfl, HR.out, Below.refl _ _⟩
  case round =>
    obtain ⟨k, hk, rfl, rfl, hof, hB⟩ := hrel
    have HB := hid hB
    by_cases hlt : k < n
    · have hkc : k < os.length := by have := HN.out; omega
      obtain ⟨g, off, rfl, hrd⟩ := HAT.out (by omega)
      obtain ⟨us, r1, o1⟩ := hrd wr hB k hkc
      rw [rdQ o1] at r1
      rw [List.drop_eq_getElem_cons hkc, ofs] at hof
      obtain ⟨⟨xr, xl, xh⟩, hd⟩ : ∃ d, os[k] = d := ⟨_, rfl⟩
      rw [hd] at r1 hof
      simp only at r1 hof
      have c0 : wr.cell? ⟨g, off + k * 3, none⟩ = some (.int .i64 xr) := by simpa using r1 0 _ rfl
      have c1 : wr.cell? ⟨g, off + k * 3 + 1, none⟩ = some (.int .i64 xl) := r1 1 _ rfl
      have c2 : wr.cell? ⟨g, off + k * 3 + 2, none⟩ = some (.int .i64 xh) := r1 2 _ rfl
      have HC := hid (fun W => checkOption_any xr xl xh W)
      obtain ⟨q, hq⟩ : ∃ q, ock xr xl xh = q := ⟨_, rfl⟩
      rw [hq] at HC hof
      have HOF := hid hof
      have HBA : Hid (Below w.heap.size w (wr.alloc (.cells #[.int .i64 xr, .int .i64 xl, .int .i64 xh] 51))) := HB.out.alloc HB.out.size _
      have i1 : (0 : Int) ≤ (k : Int) := by omega
      have i2 : (k : Int) < (n : Int) := by omega
      clear hof hB hrd o1 r1 hq hd
      by_cases hz : q = 0
      · have HO2 : Hid (ofs (os.drop (k + 1)) = R) := by have h := HOF.out; rw [if_neg (fun c => c hz)] at h; exact h
        subst hz
        go_wp2_with (go_at_call 58; refine (HC.out _).mono ?_; rintro e w2 ⟨rfl, hb2⟩; have HB2 := hid (below_trans HBA.out hb2 HBA.out.size); clear hb2)
        go_roundg (n + 1 - (k + 1))
        case rel => exact ⟨k + 1, by omega, rfl, by go_num, HO2.out, HB2.out⟩
        case measure => omega
      · have HO2 : Hid (R = q) := by have h := HOF.out; rw [if_pos hz] at h; exact h.symm
        have d1 : (q != 0) = true := by simpa using hz
        clear hz
        go_wp2_with (go_at_call 58; refine (HC.out _).mono ?_; rintro e w2 ⟨rfl, hb2⟩; have HB2 := hid (below_trans HBA.out hb2 HBA.out.size); clear hb2)
        go_ret
        exact ⟨ret_int HO2.out.symm, HB2.out⟩
    · obtain rfl : k = n := by omega
      have hd : os.drop k = [] := List.drop_of_length_le (by have := HN.out; omega)
      rw [hd, ofs] at hof
      have HO2 := hid hof
      clear hof hB hd
      go_wp2_with fail
      go_ret
      exact ⟨ret_int HO2.out, HB.out⟩
set_option maxHeartbeats 4000000 in
theorem isLinked_any (x : Int) (q : Bool) (hq : decide (x = 1 ∨ x = 2) = q) (w : World) : Calls Tryd.prog 56 #[.int .i64 x] w fun e w' => e = .returned (.bool q) ∧ w' = w := by
  subst hq
  by_cases h1 : x = 1
  · subst h1
    go_enter Tryd.func56, Tryd.ntmps56
    go_wp2_with fail
    go_ret
    exact ⟨rfl, rfl⟩
  · have d1 : (x == 1) = false := by simpa using h1
    by_cases h2 : x = 2
    · subst h2
      go_enter Tryd.func56, Tryd.ntmps56
      go_wp2_with fail
      go_ret
      exact ⟨rfl, rfl⟩
    · have d2 : (x == 2) = false := by simpa using h2
      go_enter Tryd.func56, Tryd.ntmps56
      go_wp2_with fail
      go_ret
      exact ⟨ret_bool (by simp [h1, h2]), rfl⟩
/-- What is known of whens and nots. -/
def Knl (ws ns : List Pt) (Ks : Kns) : Prop := ∀ va : ByteArray, (((lkp Ks va.data.toList).getD (0, 0)).1 = 1 ↔ 0 ≤ ptq ws va) ∧ (((lkp Ks va.data.toList).getD (0, 0)).1 = 2 ↔ ptq ws va < 0 ∧ 0 ≤ ptq ns va)
set_option maxHeartbeats 16000000 in
theorem link_any (ts : List Tp) (ws ns : List Pt) (b mb : Nat) (Ks : Kns) (n : Nat) (hkl : Knl ws ns Ks) (kl kr : ByteArray) (os : List Op3) (tv ov : Value) (w : World) (hs : Scp w ts tv b mb Ks n) (hO : Rd w (.row 51 3 (os.map encQ)) ov) (hzl : kl.size ≤ maxLen) (hzr : kr.size ≤ maxLen) :
    Calls Tryd.prog 44 #[scV tv b mb, .agg #[.string kl, ov, .string kr]] w fun e w' => e = .returned (.int .i64 (lck ws ns kl kr os)) ∧ Below w.heap.size w w' := by
  have HFO := hid (fun W (hW : Below w.heap.size w W) => firstOption_any os ov W (hO.later hW))
  obtain ⟨op, oc, rfl, hmx, _⟩ := rd_row lenQ hO
  obtain ⟨tp, tn, tc, rfl⟩ := rd_shape hs.rt
  obtain ⟨p1, p2, hp⟩ : ∃ p1 p2, (lkp Ks kl.data.toList).getD (0, 0) = (p1, p2) := ⟨_, _, rfl⟩
  obtain ⟨q1, q2, hq⟩ : ∃ q1 q2, (lkp Ks kr.data.toList).getD (0, 0) = (q1, q2) := ⟨_, _, rfl⟩
  have hL := hkl kl
  have hR := hkl kr
  rw [hp] at hL
  rw [hq] at hR
  simp only at hL hR
  obtain ⟨on, hon⟩ : ∃ l, os.length = l := ⟨_, rfl⟩
  rw [hon] at hmx HFO ⊢
  have HT : Hid (Blk2 w ((w.alloc (.cells [.slice tp tn tc, .func (.func 46) #[] #[.pointer (some ⟨b, 0, none⟩)], .map (some mb)].toArray 108)).alloc (.cells [.string kl, .slice op on oc, .string kr].toArray 54)) [.slice tp tn tc, .func (.func 46) #[] #[.pointer (some ⟨b, 0, none⟩)], .map (some mb)] [.string kl, .slice op on oc, .string kr] 108 54) := Blk2.start w _ _ _ _
  have km := (hs.later HT.out.bel).km
  have lk1 : ∀ k, (Instr.lookup 106 (.map (some mb)) (.string kl) false).run Tryd.prog (((w.alloc (.cells [.slice tp tn tc, .func (.func 46) #[] #[.pointer (some ⟨b, 0, none⟩)], .map (some mb)].toArray 108)).alloc (.cells [.string kl, .slice op on oc, .string kr].toArray 54)).drewN k) = .ok (.agg #[.int .i64 p1, .int .i64 p2]) (((w.alloc (.cells [.slice tp tn tc, .func (.func 46) #[] #[.pointer (some ⟨b, 0, none⟩)], .map (some mb)].toArray 108)).alloc (.cells [.string kl, .slice op on oc, .string kr].toArray 54)).drewN k) := fun k => by
    have := (km.later (below_drawn (Below.refl _ _) k)).look hzl
    rw [hp] at this
    exact this
  have lk2 : ∀ k, (Instr.lookup 106 (.map (some mb)) (.string kr) false).run Tryd.prog (((w.alloc (.cells [.slice tp tn tc, .func (.func 46) #[] #[.pointer (some ⟨b, 0, none⟩)], .map (some mb)].toArray 108)).alloc (.cells [.string kl, .slice op on oc, .string kr].toArray 54)).drewN k) = .ok (.agg #[.int .i64 q1, .int .i64 q2]) (((w.alloc (.cells [.slice tp tn tc, .func (.func 46) #[] #[.pointer (some ⟨b, 0, none⟩)], .map (some mb)].toArray 108)).alloc (.cells [.string kl, .slice op on oc, .string kr].toArray 54)).drewN k) := fun k => by
    have := (km.later (below_drawn (Below.refl _ _) k)).look hzr
    rw [hq] at this
    exact this
  have hfl := field_kn
  have HFB := hid (fun x q hq W => isLinked_any x q hq W)
  obtain ⟨R, hRR⟩ : ∃ R, lck ws ns kl kr os = R := ⟨_, rfl⟩
  rw [hRR]
  unfold lck at hRR
  rw [hon] at hRR
  have HR := hid hRR
  have HL := hid hL
  have HRt := hid hR
  clear hRR hL hR hkl hO hs hzl hzr hp hq hon km
  by_cases hl : p1 = 1 ∨ p1 = 2
  · by_cases hr : q1 = 1 ∨ q1 = 2
    · have hc1 : ¬ ((ptq ws kl < 0 ∧ ptq ns kl < 0) ∨ (ptq ws kr < 0 ∧ ptq ns kr < 0)) := by
        obtain ⟨a1, a2⟩ := HL.out
        obtain ⟨b1, b2⟩ := HRt.out
        omega
      have HR1 := HR.out
      rw [if_neg hc1] at HR1
      cases hsq : seq kl kr with
      | true =>
        have HRR : Hid (R = 4) := by show _ = _; rw [← HR1, if_pos (.inl hsq)]
        have d0 : (kl.toList == kr.toList) = true := hsq
        have HDL := hid (show decide (p1 = 1 ∨ p1 = 2) = true by simpa using hl)
        have HDR := hid (show decide (q1 = 1 ∨ q1 = 2) = true by simpa using hr)
        clear hl hr hc1 HR1 hsq HR HL HRt
        go_enter Tryd.func44, Tryd.ntmps44
        go_wp2_with fail
        go_quiet (fail)
        go_wp2_with fail
        refine (HFB.out _ true HDL.out _).mono ?_
        rintro e _ ⟨rfl, rfl⟩
        go_wp2_with fail
        refine (HFB.out _ true HDR.out _).mono ?_
        rintro e _ ⟨rfl, rfl⟩
        go_wp2_with fail
        go_ret
        exact ⟨ret_int HRR.out.symm, below_drawn HT.out.bel _⟩
      | false =>
        have d0 : (kl.toList == kr.toList) = false := hsq
        by_cases h22 : p1 = 2 ∧ q1 = 2
        · have HRR : Hid (R = 4) := by
            show _ = _
            obtain ⟨a1, a2⟩ := HL.out
            obtain ⟨b1, b2⟩ := HRt.out
            rw [← HR1, if_pos (.inr ⟨(a2.1 h22.1).1, (b2.1 h22.2).1⟩)]
          obtain ⟨rfl, rfl⟩ := h22
          clear hl hr hc1 HR1 hsq HR HL HRt
          go_enter Tryd.func44, Tryd.ntmps44
          go_wp2_with fail
          go_quiet (fail)
          go_wp2_with fail
          refine (HFB.out _ true (by decide) _).mono ?_
          rintro e _ ⟨rfl, rfl⟩
          go_wp2_with fail
          refine (HFB.out _ true (by decide) _).mono ?_
          rintro e _ ⟨rfl, rfl⟩
          go_wp2_with fail
          go_ret
          exact ⟨ret_int HRR.out.symm, below_drawn HT.out.bel _⟩
        · have HR2 := HR1
          rw [if_neg (by
            obtain ⟨a1, a2⟩ := HL.out
            obtain ⟨b1, b2⟩ := HRt.out
            rw [hsq]
            simp
            omega)] at HR2
          have HDL := hid (show decide (p1 = 1 ∨ p1 = 2) = true by simpa using hl)
          have HDR := hid (show decide (q1 = 1 ∨ q1 = 2) = true by simpa using hr)
          have hwy : (p1 = 2 ∧ q1 ≠ 2) ∨ p1 ≠ 2 := by omega
          have HR3 := hid HR2
          clear hl hr hc1 HR1 HR2 hsq HR HL HRt h22
          rcases (by omega : on < 1 ∨ 6 < on ∨ (1 ≤ on ∧ on ≤ 6)) with ho | ho | ho
          · have HRR : Hid (R = 1) := by show _ = _; rw [← HR3.out, if_pos (by omega)]
            have g1 : (on : Int) < 1 := by omega
            clear HR3 ho
            rcases hwy with ⟨rfl, hw⟩ | hw
            · have e2 : (q1 == 2) = false := by simpa using hw
              clear hw
              go_enter Tryd.func44, Tryd.ntmps44
              go_wp2_with fail
              go_quiet (fail)
              go_wp2_with fail
              refine (HFB.out _ true HDL.out _).mono ?_
              rintro e _ ⟨rfl, rfl⟩
              go_wp2_with fail
              refine (HFB.out _ true HDR.out _).mono ?_
              rintro e _ ⟨rfl, rfl⟩
              go_wp2_with fail
              go_ret
              exact ⟨ret_int HRR.out.symm, below_drawn HT.out.bel _⟩
            · have e2 : (p1 == 2) = false := by simpa using hw
              clear hw
              go_enter Tryd.func44, Tryd.ntmps44
              go_wp2_with fail
              go_quiet (fail)
              go_wp2_with fail
              refine (HFB.out _ true HDL.out _).mono ?_
              rintro e _ ⟨rfl, rfl⟩
              go_wp2_with fail
              refine (HFB.out _ true HDR.out _).mono ?_
              rintro e _ ⟨rfl, rfl⟩
              go_wp2_with fail
              go_ret
              exact ⟨ret_int HRR.out.symm, below_drawn HT.out.bel _⟩
          · have HRR : Hid (R = 1) := by show _ = _; rw [← HR3.out, if_pos (by omega)]
            have g1 : ¬ (on : Int) < 1 := by omega
            have g2 : (6 : Int) < (on : Int) := by omega
            clear HR3 ho
            rcases hwy with ⟨rfl, hw⟩ | hw
            · have e2 : (q1 == 2) = false := by simpa using hw
              clear hw
              go_enter Tryd.func44, Tryd.ntmps44
              go_wp2_with fail
              go_quiet (fail)
              go_wp2_with fail
              refine (HFB.out _ true HDL.out _).mono ?_
              rintro e _ ⟨rfl, rfl⟩
              go_wp2_with fail
              refine (HFB.out _ true HDR.out _).mono ?_
              rintro e _ ⟨rfl, rfl⟩
              go_wp2_with fail
              go_ret
              exact ⟨ret_int HRR.out.symm, below_drawn HT.out.bel _⟩
            · have e2 : (p1 == 2) = false := by simpa using hw
              clear hw
              go_enter Tryd.func44, Tryd.ntmps44
              go_wp2_with fail
              go_quiet (fail)
              go_wp2_with fail
              refine (HFB.out _ true HDL.out _).mono ?_
              rintro e _ ⟨rfl, rfl⟩
              go_wp2_with fail
              refine (HFB.out _ true HDR.out _).mono ?_
              rintro e _ ⟨rfl, rfl⟩
              go_wp2_with fail
              go_ret
              exact ⟨ret_int HRR.out.symm, below_drawn HT.out.bel _⟩
          · have HRR : Hid (R = ofs os) := by show _ = _; rw [← HR3.out, if_neg (by omega)]
            have g1 : ¬ (on : Int) < 1 := by omega
            have g2 : ¬ (6 : Int) < (on : Int) := by omega
            clear HR3 ho
            rcases hwy with ⟨rfl, hw⟩ | hw
            · have e2 : (q1 == 2) = false := by simpa using hw
              clear hw
              go_enter Tryd.func44, Tryd.ntmps44
              go_wp2_with fail
              go_quiet (fail)
              go_wp2_with fail
              refine (HFB.out _ true HDL.out _).mono ?_
              rintro e _ ⟨rfl, rfl⟩
              go_wp2_with fail
              refine (HFB.out _ true HDR.out _).mono ?_
              rintro e _ ⟨rfl, rfl⟩
              go_wp2_with fail
              refine (HFO.out _ (below_drawn HT.out.bel _)).mono ?_
              rintro e w2 ⟨rfl, hb2⟩
              have HB2 := hid (below_trans (below_drawn HT.out.bel _) hb2 (below_drawn HT.out.bel _).size)
              clear hb2
              go_wp2_with fail
              go_ret
              exact ⟨ret_int HRR.out.symm, HB2.out⟩
            · have e2 : (p1 == 2) = false := by simpa using hw
              clear hw
              go_enter Tryd.func44, Tryd.ntmps44
              go_wp2_with fail
              go_quiet (fail)
              go_wp2_with fail
              refine (HFB.out _ true HDL.out _).mono ?_
              rintro e _ ⟨rfl, rfl⟩
              go_wp2_with fail
              refine (HFB.out _ true HDR.out _).mono ?_
              rintro e _ ⟨rfl, rfl⟩
              go_wp2_with fail
              refine (HFO.out _ (below_drawn HT.out.bel _)).mono ?_
              rintro e w2 ⟨rfl, hb2⟩
              have HB2 := hid (below_trans (below_drawn HT.out.bel _) hb2 (below_drawn HT.out.bel _).size)
              clear hb2
              go_wp2_with fail
              go_ret
              exact ⟨ret_int HRR.out.symm, HB2.out⟩
    · have HRR : Hid (R = 6) := by
        show _ = _
        obtain ⟨b1, b2⟩ := HRt.out
        rw [← HR.out, if_pos (.inr (by omega))]
      have HDL := hid (show decide (p1 = 1 ∨ p1 = 2) = true by simpa using hl)
      have HDR := hid (show decide (q1 = 1 ∨ q1 = 2) = false by simpa using hr)
      clear hl hr HR HL HRt
      go_enter Tryd.func44, Tryd.ntmps44
      go_wp2_with fail
      go_quiet (fail)
      go_wp2_with fail
      refine (HFB.out _ true HDL.out _).mono ?_
      rintro e _ ⟨rfl, rfl⟩
      go_wp2_with fail
      refine (HFB.out _ false HDR.out _).mono ?_
      rintro e _ ⟨rfl, rfl⟩
      go_wp2_with fail
      go_ret
      exact ⟨ret_int HRR.out.symm, below_drawn HT.out.bel _⟩
  · have HRR : Hid (R = 6) := by
      show _ = _
      obtain ⟨a1, a2⟩ := HL.out
      rw [← HR.out, if_pos (.inl (by omega))]
    have HDL := hid (show decide (p1 = 1 ∨ p1 = 2) = false by simpa using hl)
    clear hl HR HL HRt
    go_enter Tryd.func44, Tryd.ntmps44
    go_wp2_with fail
    go_quiet (fail)
    go_wp2_with fail
    refine (HFB.out _ false HDL.out _).mono ?_
    rintro e _ ⟨rfl, rfl⟩
    go_wp2_with fail
    go_ret
    exact ⟨ret_int HRR.out.symm, below_drawn HT.out.bel _⟩
theorem sdk_own {ts : List Tp} {ws : List Pt} {a c : Tp} {o : Opd} (h : o.k ≠ 2) : sdk ts ws a o = sdk ts ws c o := by
  unfold sdk
  simp only [if_neg h]
/-- What is wrong with one value that is emitted. -/
def emk (ts : List Tp) (ws : List Pt) (t : Tp) (o : Opd) (want : Int) : Int := if o.k = 2 then 4 else if (sdk ts ws t o).2 ≠ 0 then (sdk ts ws t o).2 else if (sdk ts ws t o).1 ≠ want then 13 else 0
set_option maxHeartbeats 16000000 in
theorem emitted_any (ts : List Tp) (ws : List Pt) (t : Tp) (b mb : Nat) (Ks : Kns) (n : Nat) (hkn : Known ts ws) (hk : Knw ts ws Ks) (hty : ∀ i (hi : i < ts.length), tyk ts[i].n ts[i].f = 0) (o : Opd) (want : Int) (tv : Value) (w : World) (hs : Scp w ts tv b mb Ks n) (hz : o.va.size ≤ maxLen) :
    Calls Tryd.prog 59 #[scV tv b mb, opV o, .int .i64 want] w fun e w' => e = .returned (.int .i64 (emk ts ws t o want)) ∧ Below w.heap.size w w' := by
  obtain ⟨tp, tn, tc, rfl⟩ := rd_shape hs.rt
  obtain ⟨R, hR⟩ : ∃ R, emk ts ws t o want = R := ⟨_, rfl⟩
  rw [hR]
  unfold emk at hR
  have HR := hid hR
  by_cases h2 : o.k = 2
  · have HRR : Hid (R = 4) := by show _ = _; rw [← HR.out, if_pos h2]
    obtain ⟨ok, ovk, ovi, ovt, ova, ofd⟩ := o
    obtain rfl : ok = 2 := h2
    have HB : Hid (Below w.heap.size w ((w.alloc (.cells [.slice tp tn tc, .func (.func 46) #[] #[.pointer (some ⟨b, 0, none⟩)], .map (some mb)].toArray 108)).alloc (.cells [.int .i64 2, .int .i64 ovk, .int .i64 ovi, .string ovt, .string ova, .string ofd].toArray 42))) := ((Below.refl _ _).alloc (Nat.le_refl _) _).alloc (by simp) _
    clear HR hR hs hkn hk hty hz
    go_enter Tryd.func59, Tryd.ntmps59
    go_wp2_with fail
    go_ret
    exact ⟨ret_int HRR.out.symm, HB.out⟩
  · have e1 : sdk ts ws t o = sdk ts ws ⟨⟨#[]⟩, []⟩ o := sdk_own h2
    have HSD := hid (fun W (hW : Below w.heap.size w W) => side_any ts ws ⟨⟨#[]⟩, []⟩ o (.slice tp tn tc) (.slice none 0 0) b mb Ks n W (hs.later hW) (Rd.nil _ _ none 0 (Nat.zero_le _)) hkn hk hty (fun c => absurd c h2) hz)
    have HR1 := HR.out
    rw [if_neg h2, e1] at HR1
    obtain ⟨⟨s1, s2⟩, hsd⟩ : ∃ x, sdk ts ws ⟨⟨#[]⟩, []⟩ o = x := ⟨_, rfl⟩
    rw [hsd] at HR1 HSD
    have HR2 := hid HR1
    obtain ⟨ok, ovk, ovi, ovt, ova, ofd⟩ := o
    have d2 : (ok == 2) = false := by simpa using h2
    have HB : Hid (Below w.heap.size w ((w.alloc (.cells [.slice tp tn tc, .func (.func 46) #[] #[.pointer (some ⟨b, 0, none⟩)], .map (some mb)].toArray 108)).alloc (.cells [.int .i64 ok, .int .i64 ovk, .int .i64 ovi, .string ovt, .string ova, .string ofd].toArray 42))) := ((Below.refl _ _).alloc (Nat.le_refl _) _).alloc (by simp) _
    simp only at HR2 HSD
    clear HR hR hs hkn hk hty hz HR1 hsd e1 h2
    by_cases hz : s2 = 0
    · subst hz
      by_cases hy : s1 = want
      · have HRR : Hid (R = 0) := by show _ = _; rw [← HR2.out]; simp [hy]
        subst hy
        go_enter Tryd.func59, Tryd.ntmps59
        go_wp2_with fail
        refine (HSD.out _ HB.out).mono ?_
        rintro e w2 ⟨rfl, hb2⟩
        have HB2 := hid (below_trans HB.out hb2 HB.out.size)
        clear hb2
        go_wp2_with fail
        go_ret
        exact ⟨ret_int HRR.out.symm, HB2.out⟩
      · have HRR : Hid (R = 13) := by show _ = _; rw [← HR2.out]; simp [hy]
        have d3 : (s1 != want) = true := by simpa using hy
        clear hy
        go_enter Tryd.func59, Tryd.ntmps59
        go_wp2_with fail
        refine (HSD.out _ HB.out).mono ?_
        rintro e w2 ⟨rfl, hb2⟩
        have HB2 := hid (below_trans HB.out hb2 HB.out.size)
        clear hb2
        go_wp2_with fail
        go_ret
        exact ⟨ret_int HRR.out.symm, HB2.out⟩
    · have HRR : Hid (R = s2) := by show _ = _; rw [← HR2.out]; simp [hz]
      have d3 : (s2 == 0) = false := by simpa using hz
      clear hz
      go_enter Tryd.func59, Tryd.ntmps59
      go_wp2_with fail
      refine (HSD.out _ HB.out).mono ?_
      rintro e w2 ⟨rfl, hb2⟩
      have HB2 := hid (below_trans HB.out hb2 HB.out.size)
      clear hb2
      go_wp2_with fail
      go_ret
      exact ⟨ret_int HRR.out.symm, HB2.out⟩
theorem ent_emd : ∀ args w, (callFunc 59 args).run Tryd.prog w = .ok (.enter 59 args) w := enters_of Tryd.func59 (by kernel_rfl) rfl
theorem evs_step (ts : List Tp) (ws : List Pt) (t : Tp) (o : Opd) (f : Fd) (r : List Opd) (g : List Fd) : evs ts ws t (o :: r) (f :: g) = if emk ts ws t o f.k ≠ 0 then emk ts ws t o f.k else evs ts ws t r g := by
  rw [evs]
  unfold emk
  by_cases h1 : o.k = 2
  · simp [h1]
  · by_cases h2 : (sdk ts ws t o).2 = 0
    · by_cases h3 : (sdk ts ws t o).1 = f.k
      · simp [h1, h2, h3]
      · simp [h1, h2, h3]
    · simp [h1, h2]
set_option maxHeartbeats 32000000 in
theorem emit_any (ts : List Tp) (ws : List Pt) (b mb : Nat) (Ks : Kns) (n : Nat) (hkn : Known ts ws) (hk : Knw ts ws Ks) (hty : ∀ i (hi : i < ts.length), tyk ts[i].n ts[i].f = 0) (ety : ByteArray) (vs : List Opd) (hzs : ∀ o, o ∈ vs → o.va.size ≤ maxLen) (tv u5 : Value) (w : World) (hs : Scp w ts tv b mb Ks n) (hV : Rd w (.row 42 6 (vs.map encO)) u5) :
    Calls Tryd.prog 45 #[scV tv b mb, .agg #[.string ety, u5]] w fun e w' => e = .returned (.int .i64 (eck ts ws ety vs)) ∧ Below w.heap.size w w' := by
  have HEM := hid (fun (t : Tp) (o : Opd) (ho : o ∈ vs) (want : Int) W (hW : Below w.heap.size w W) => emitted_any ts ws t b mb Ks n hkn hk hty o want tv W (hs.later hW) (hzs o ho))
  have HFI := hid (fun W (hW : Below w.heap.size w W) => find_any ts tv ety b W (hs.rt.later hW) (hs.later hW).fd)
  have HS := hid hs
  obtain ⟨tp, tn, tc, rfl⟩ := rd_shape hs.rt
  obtain ⟨q5, j5, rfl, hmx, hav⟩ := rd_row lenO hV
  have HAV : Hid (At encO 6 w q5 vs) := hav
  obtain ⟨l5, hl5⟩ : ∃ l, vs.length = l := ⟨_, rfl⟩
  have HN5 := hid hl5
  obtain ⟨R, hR⟩ : ∃ R, eck ts ws ety vs = R := ⟨_, rfl⟩
  rw [hR]
  unfold eck at hR
  rw [hl5] at hmx hR ⊢
  have HR := hid hR
  have HT : Hid (Blk2 w ((w.alloc (.cells [.slice tp tn tc, .func (.func 46) #[] #[.pointer (some ⟨b, 0, none⟩)], .map (some mb)].toArray 108)).alloc (.cells [.string ety, .slice q5 l5 j5].toArray 33)) [.slice tp tn tc, .func (.func 46) #[] #[.pointer (some ⟨b, 0, none⟩)], .map (some mb)] [.string ety, .slice q5 l5 j5] 108 33) := Blk2.start w _ _ _ _
  clear hR hl5 hav hV hs hkn hk hty hzs
  cases hem : emp ety with
  | true =>
    have q0 := emp_t hem
    have HR1 := HR.out
    rw [if_pos hem] at HR1
    by_cases h0 : 0 < l5
    · have HRR : Hid (R = 4) := by show _ = _; rw [← HR1, if_pos h0]
      have g1 : (0 : Int) < (l5 : Int) := by omega
      clear HR1 HR hem
      go_enter Tryd.func45, Tryd.ntmps45
      go_wp2_with fail
      go_ret
      exact ⟨ret_int HRR.out.symm, HT.out.bel⟩
    · have HRR : Hid (R = 0) := by show _ = _; rw [← HR1, if_neg h0]
      obtain rfl : l5 = 0 := by omega
      clear HR1 HR hem h0
      go_enter Tryd.func45, Tryd.ntmps45
      go_wp2_with fail
      go_ret
      exact ⟨ret_int HRR.out.symm, HT.out.bel⟩
  | false =>
    obtain ⟨q0, q1⟩ := emp_f hem
    have HR1 := HR.out
    have hne : ¬ emp ety = true := by rw [hem]; decide
    rw [if_neg hne] at HR1
    have HR2 := hid HR1
    obtain ⟨t0, ht0⟩ : ∃ t, tyq ts ety = t := ⟨_, rfl⟩
    have HT0 := hid ht0
    rw [ht0] at HFI
    clear HR1 HR hne hem ht0
    go_enter Tryd.func45, Tryd.ntmps45
    go_wp2_with fail
    refine (HFI.out _ HT.out.bel).mono ?_
    rintro e w2 ⟨rfl, hb2⟩
    have HT2 : Hid (Blk2 w w2 [.slice tp tn tc, .func (.func 46) #[] #[.pointer (some ⟨b, 0, none⟩)], .map (some mb)] [.string ety, .slice q5 l5 j5] 108 33) := HT.out.next hb2
    clear hb2
    by_cases h2 : t0 < 0
    · have HRR : Hid (R = 6) := by show _ = _; have h := HR2.out; rw [HT0.out, if_pos h2] at h; exact h.symm
      go_wp2_with fail
      go_ret
      exact ⟨ret_int HRR.out.symm, HT2.out.bel⟩
    · have HR3 := HR2.out
      rw [HT0.out, if_neg h2] at HR3
      obtain ⟨ix, hix, hti⟩ : ∃ i, ∃ _ : i < ts.length, t0 = (i : Int) := by
        rcases ixq_lt (q := fun t : Tp => seq t.n ety) ts 0 with c | ⟨i, hi, c, _⟩
        · exfalso
          have h5 : t0 < 0 := by rw [← HT0.out, show tyq ts ety = -1 from c]; decide
          omega
        · exact ⟨i, hi, by rw [← HT0.out]; show ixq _ _ _ = _; rw [c]; simp⟩
      subst hti
      obtain ⟨p', cap', e0, _, hat⟩ := rd_row lenY HS.out.rt
      have etn := (rd_caps HS.out.rt).1
      simp only [Value.slice.injEq] at e0
      obtain ⟨rfl, hx0, rfl⟩ := e0
      obtain ⟨gt, oft, rfl, hrd⟩ := hat (by omega)
      obtain ⟨T2, t1, t2⟩ := hrd w2 HT2.out.bel ix hix
      obtain ⟨fv2, zt, o3⟩ := rdY t2
      obtain ⟨fp, fc, rfl, hmf, haf⟩ := rd_row lenF o3
      rw [zt] at t1
      have y1 : w2.cell? ⟨gt, oft + ix * 2 + 1, none⟩ = some (.slice fp ts[ix].f.length fc) := t1 1 _ rfl
      have hgd : ts.getD (((ix : Nat) : Int)).toNat ⟨txt [], []⟩ = ts[ix] := by simp [hix]
      rw [hgd] at HR3
      have HAF : Hid (At encF 2 w2 fp ts[ix].f) := haf
      obtain ⟨tt, htt⟩ : ∃ t, ts[ix] = t := ⟨_, rfl⟩
      rw [htt] at HR3 HAF y1 hmf
      obtain ⟨lf, hlf⟩ : ∃ l, tt.f.length = l := ⟨_, rfl⟩
      rw [hlf] at HR3 y1 hmf
      have HLF := hid hlf
      have HR4 := hid HR3
      have i1 : (0 : Int) ≤ (ix : Int) := by omega
      have i2 : (ix : Int) < (tn : Int) := by omega
      have k0 : w2.cell? ⟨w.heap.size, 0, none⟩ = some (.slice (some ⟨gt, oft, none⟩) tn tc) := HT2.out.c1 0
      have k5 : w2.cell? ⟨w.heap.size + 1, 1, none⟩ = some (.slice q5 l5 j5) := HT2.out.c2 1
      clear HR3 hlf htt hgd haf t1 t2 o3 zt hrd hat etn hx0 hix h2
      by_cases hlen : l5 = lf
      · have HR5 : Hid (evs ts ws tt vs tt.f = R) := by show _ = _; have h := HR4.out; rw [if_neg (fun c => c hlen)] at h; exact h
        have d1 : ((l5 : Int) != (lf : Int)) = false := by simp; omega
        subst hlen
        go_wp2_with fail
        go_loopg [39] (l5 + 1) (fun gg i wr => ∃ k : Nat, k ≤ l5 ∧ gg = l5 + 1 - k ∧ i = .int .i64 (k : Nat) ∧ evs ts ws tt (vs.drop k) (tt.f.drop k) = R ∧ Blk2 w wr [.slice (some ⟨gt, oft, none⟩) tn tc, .func (.func 46) #[] #[.pointer (some ⟨b, 0, none⟩)], .map (some mb)] [.string ety, .slice q5 l5 j5] 108 33 ∧ Below w2.heap.size w2 wr)
        case atStart => exact ⟨0, by omega, by omega, rfl, HR5.out, HT2.out, Below.refl _ _⟩
        case round =>
          obtain ⟨k, hk, rfl, rfl, hev, hTr, hB2⟩ := hrel
          clear HT2 HT k0 k5 y1
          have HT := hid hTr
          have HB2 := hid hB2
          by_cases hlt : k < l5
          · have hkc : k < vs.length := by have := HN5.out; omega
            have hkf : k < tt.f.length := by have := HLF.out; omega
            obtain ⟨gv, ofv, hp, hrv⟩ := HAV.out (by omega)
            subst hp
            obtain ⟨gf, off, hpf, hrf⟩ := HAF.out (by omega)
            subst hpf
            obtain ⟨A, r1, o1⟩ := hrv wr hTr.bel k hkc
            obtain ⟨F2, r2, o2⟩ := hrf wr hB2 k hkf
            rw [rdF o2] at r2
            have f1 : wr.cell? ⟨gf, off + k * 2 + 1, none⟩ = some (.int .i64 tt.f[k].k) := r2 1 _ rfl
            have z1 := rdO o1
            have hA6 : A.length = 6 := o1.1.symm
            rw [List.drop_eq_getElem_cons hkc, List.drop_eq_getElem_cons hkf, evs_step] at hev
            have hcall := fun W (hW : Below wr.heap.size wr W) => HEM.out tt vs[k] (List.getElem_mem hkc) tt.f[k].k W (below_trans hTr.bel hW hTr.bel.size)
            obtain ⟨fk, hfk⟩ : ∃ x, tt.f[k].k = x := ⟨_, rfl⟩
            rw [hfk] at f1 hev hcall
            obtain ⟨e9, he9⟩ : ∃ e9, emk ts ws tt vs[k] fk = e9 := ⟨_, rfl⟩
            rw [he9] at hev hcall
            obtain ⟨UL, hUL⟩ : ∃ UL : List Value, [.slice (some ⟨gt, oft, none⟩) tn tc, .func (.func 46) #[] #[.pointer (some ⟨b, 0, none⟩)], .map (some mb)] = UL := ⟨_, rfl⟩
            have HCM0 : Hid (∀ W, Below wr.heap.size wr W → Calls Tryd.prog 59 #[.agg UL.toArray, .agg A.toArray, .int .i64 fk] W fun e w' => e = .returned (.int .i64 e9) ∧ Below W.heap.size W w') := fun W hW => by rw [← hUL, z1]; exact hcall W hW
            have HUR : Hid (∀ W, Blk2 w W [.slice (some ⟨gt, oft, none⟩) tn tc, .func (.func 46) #[] #[.pointer (some ⟨b, 0, none⟩)], .map (some mb)] [.string ety, .slice (some ⟨gv, ofv, none⟩) l5 j5] 108 33 → W.rangeAt w.heap.size 0 UL) := fun W h => by rw [← hUL]; exact range_blk h.b1
            have HAO : Hid (A.all (·.oneCell') = true) := by show _ = _; rw [z1]; rfl
            have ZA : Hid ((Tryd.prog.info? 42).map (·.size) = some A.length) := by show _ = _; rw [hA6]; kernel_rfl
            have ZU : Hid ((Tryd.prog.info? 108).map (·.size) = some UL.length) := by show _ = _; rw [← hUL]; kernel_rfl
            have HAL := hid hA6
            have X1_ := hid r1
            have HF1 := hid f1
            have HEV := hid hev
            have j1 : (0 : Int) ≤ (k : Int) := by omega
            have j2 : (k : Int) < (l5 : Int) := by omega
            clear hcall r1 r2 o1 o2 f1 hrv hrf hTr hB2 hA6 hev he9 hfk z1 hUL
            go_wp2_with (first
              | ((with_reducible show wpList _ _ _ (Oper.mk _ (.load _ _) _ _ _ _ :: _) _ _); refine wpList_load_mid (by rfl) 42 _ (by rfl) gv (ofv + k * 6) (by rfl) A _ X1_.out Tryd.underlying42 rfl ZA.out ?_)
              | ((with_reducible show wpList _ _ _ (Oper.mk _ (.store _ _ _) _ _ _ _ :: _) _ _); refine wp_st (by rfl) 42 _ _ (by rfl) wr.heap.size 0 _ 42 (.agg A.toArray) A (by rfl) (by rfl) (by rfl) (heap_alloc_new _ _) (by have := HAL.out; simp; omega) ZA.out HAO.out ?_; intro w1 hblk hfr; rw [ovr_all (by rw [HAL.out]; rfl)] at hblk; have hbl := new_store hfr; have HT1 : Hid (Blk2 w w1 [.slice (some ⟨gt, oft, none⟩) tn tc, .func (.func 46) #[] #[.pointer (some ⟨b, 0, none⟩)], .map (some mb)] [.string ety, .slice (some ⟨gv, ofv, none⟩) l5 j5] 108 33) := HT.out.next hbl; have HBW : Hid (Below wr.heap.size wr w1) := hbl; have XA : Hid (w1.rangeAt wr.heap.size 0 A) := range_blk hblk; clear hblk hfr hbl))
            have HCM : Hid (∀ W, Below w1.heap.size w1 W → Calls Tryd.prog 59 #[.agg UL.toArray, .agg A.toArray, .int .i64 fk] W fun e w' => e = .returned (.int .i64 e9) ∧ Below W.heap.size W w') := fun W hW => HCM0.out W (below_trans HBW.out hW HBW.out.size)
            have HSK : Hid (∀ W, Below w1.heap.size w1 W → W.rangeAt w.heap.size 0 UL ∧ W.rangeAt wr.heap.size 0 A ∧ W.cell? ⟨gf, off + k * 2 + 1, none⟩ = some (.int .i64 fk)) := fun W hW =>
              ⟨HUR.out _ (HT1.out.next hW), range_below XA.out hW, (((below_trans HBW.out hW HBW.out.size)).cell (World.block_lt_of_cell? _ _ HF1.out)).trans HF1.out⟩
            refine start_n (S := (fun w' => w'.rangeAt w.heap.size 0 UL ∧ w'.rangeAt wr.heap.size 0 A ∧ w'.cell? ⟨gf, off + k * 2 + 1, none⟩ = some (.int .i64 fk))) 9 #[false, false, false, false, false, false, false, false, false] rfl rfl (by kernel_rfl) (by { exact HSK.out _ (Below.drew (Below.refl _ _)) }) (fun hHeld => ?_)
            refine take_mk (i := 2) (v := ?v1) rfl (by kernel_rfl) (by kernel_rfl) (by kernel_rfl) (fun _ _ _ h => h) (Or.inl ⟨by rfl, ?hy1⟩) (by assumption) ?rest1
            case hy1 => (intro w0 hSw; (try dsimp only at hSw); go_simp <;> (try (with_reducible rfl)))
            (try simp only [Act.put, List.setIfInBounds_toArray, List.set_cons_zero, List.set_cons_succ])
            refine take_mk (i := 3) (v := ?v2) rfl (by kernel_rfl) (by kernel_rfl) (by kernel_rfl) (fun _ _ _ h => h) (Or.inl ⟨by rfl, ?hy2⟩) (by assumption) ?rest2
            case hy2 => (intro w0 hSw; (try dsimp only at hSw); go_simp <;> (try (with_reducible rfl)))
            (try simp only [Act.put, List.setIfInBounds_toArray, List.set_cons_zero, List.set_cons_succ])
            refine take_mk (i := 4) (v := ?v3) rfl (by kernel_rfl) (by kernel_rfl) (by kernel_rfl) (fun _ _ _ h => h) (Or.inl ⟨by rfl, ?hy3⟩) (by assumption) ?rest3
            case hy3 => (intro w0 hSw; (try dsimp only at hSw); go_simp <;> (try (with_reducible rfl)))
            (try simp only [Act.put, List.setIfInBounds_toArray, List.set_cons_zero, List.set_cons_succ])
            refine take_mk (i := 5) (v := ?v4) rfl (by kernel_rfl) (by kernel_rfl) (by kernel_rfl) (fun _ _ _ h => h) (Or.inl ⟨by rfl, ?hy4⟩) (by assumption) ?rest4
            case hy4 => (intro w0 hSw; (try dsimp only at hSw); go_simp <;> (try (with_reducible rfl)))
            (try simp only [Act.put, List.setIfInBounds_toArray, List.set_cons_zero, List.set_cons_succ])
            refine take_mk (i := 6) (v := ?v5) rfl (by kernel_rfl) (by kernel_rfl) (by kernel_rfl) (fun _ _ _ h => h) (Or.inl ⟨by rfl, ?hy5⟩) (by assumption) ?rest5
            case hy5 => (intro w0 hSw; (try dsimp only at hSw); go_simp <;> (try (with_reducible rfl)))
            (try simp only [Act.put, List.setIfInBounds_toArray, List.set_cons_zero, List.set_cons_succ])
            refine take_mk (i := 0) rfl (by kernel_rfl) (by kernel_rfl) (by kernel_rfl) (fun _ _ _ h => h) (yieldsIf_load_mid (by rfl) 108 _ rfl w.heap.size (0) (by rfl) UL _ (fun _ h => h.1) Tryd.underlying108 rfl ZU.out) (by assumption) ?_
            (try simp only [Act.put, List.setIfInBounds_toArray, List.set_cons_zero, List.set_cons_succ])
            refine take_mk (i := 1) rfl (by kernel_rfl) (by kernel_rfl) (by kernel_rfl) (fun _ _ _ h => h) (yieldsIf_load_mid (by rfl) 42 _ rfl wr.heap.size (0) (by rfl) A _ (fun _ h => h.2.1) Tryd.underlying42 rfl ZA.out) (by assumption) ?_
            (try simp only [Act.put, List.setIfInBounds_toArray, List.set_cons_zero, List.set_cons_succ])
            refine wpAnyH_ready (rs := [7]) (by kernel_rfl) (by simp) ?_
            refine cons_mk rfl (fun K hK => ?_) AllReadyH.nil
            refine step_call3 59 ent_emd (by rfl) _ _ _ _ (by rfl) (.agg UL.toArray) (.agg A.toArray) (.int .i64 fk) (by rfl) (by rfl) (by rfl) _ (HCM.out _ (Below.drew (Below.refl _ _))) ?_
            rintro e w9 ⟨rfl, hb9⟩
            refine ⟨_, rfl, ?_⟩
            have HB9 : Hid (Below w1.heap.size w1 w9) := below_trans (Below.drew (Below.refl _ _)) hb9 (Nat.le_refl _)
            clear hb9
            refine hK.out _ _ (by { exact HSK.out _ HB9.out }) (fun hHeld => ?_)
            clear hK K
            (try simp only [Act.put, List.setIfInBounds_toArray, List.set_cons_zero, List.set_cons_succ])
            refine take_mk (i := 8) (v := ?v6) rfl (by kernel_rfl) (by kernel_rfl) (by kernel_rfl) (fun _ _ _ h => h) (Or.inl ⟨by rfl, ?hy6⟩) (by assumption) ?rest6
            case hy6 => (intro w0 hSw; (try dsimp only at hSw); go_simp <;> (try (with_reducible rfl)))
            (try simp only [Act.put, List.setIfInBounds_toArray, List.set_cons_zero, List.set_cons_succ])
            refine wpAnyH_done (by kernel_rfl) ?_ _
            clear hHeld
            have HT9 : Hid (Blk2 w w9 [.slice (some ⟨gt, oft, none⟩) tn tc, .func (.func 46) #[] #[.pointer (some ⟨b, 0, none⟩)], .map (some mb)] [.string ety, .slice (some ⟨gv, ofv, none⟩) l5 j5] 108 33) := HT1.out.next HB9.out
            have HB29 : Hid (Below w2.heap.size w2 w9) := below_trans HB2.out (below_trans HBW.out HB9.out HBW.out.size) HB2.out.size
            by_cases hz : e9 = 0
            · have HE2 : Hid (evs ts ws tt (vs.drop (k + 1)) (tt.f.drop (k + 1)) = R) := by have h := HEV.out; rw [if_neg (fun c => c hz)] at h; exact h
              subst hz
              go_wp2_with fail
              go_roundg (l5 + 1 - (k + 1))
              case rel => exact ⟨k + 1, by omega, rfl, by go_num, HE2.out, HT9.out, HB29.out⟩
              case measure => omega
            · have HE2 : Hid (R = e9) := by have h := HEV.out; rw [if_pos hz] at h; exact h.symm
              have d9 : (e9 != 0) = true := by simpa using hz
              clear hz
              go_wp2_with fail
              go_ret
              exact ⟨ret_int HE2.out.symm, HT9.out.bel⟩
          · obtain rfl : k = l5 := by omega
            have hd : vs.drop k = [] := List.drop_of_length_le (by have := HN5.out; omega)
            rw [hd] at hev
            have HE2 : Hid (R = 0) := by show _ = _; rw [← hev]; cases tt.f.drop k <;> rfl
            clear hev hd hTr hB2
            go_wp2_with fail
            go_ret
            exact ⟨ret_int HE2.out.symm, HT.out.bel⟩
      · have HRR : Hid (R = 13) := by show _ = _; have h := HR4.out; rw [if_pos hlen] at h; exact h.symm
        have d1 : ((l5 : Int) != (lf : Int)) = true := by simp; omega
        clear hlen
        go_wp2_with fail
        go_ret
        exact ⟨ret_int HRR.out.symm, HT2.out.bel⟩
end Go.Proofs.YtdihklfaiiclgaaDoor.Chk
