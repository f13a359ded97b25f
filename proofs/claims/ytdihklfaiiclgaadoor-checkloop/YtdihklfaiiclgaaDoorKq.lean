/-
  An option of raw numbers. A many, by the program.
-/
import Derived.Deep.MidRow
import Derived.Test.YtdihklfaiiclgaaDoorDp
import Derived.Test.YtdihklfaiiclgaaDoorDg
namespace Go.Proofs.YtdihklfaiiclgaaDoor.Chk
open Go.ChangeShapes Go.WideShapes Go.ChangeAt Go.RowKit Go.Maps
set_option linter.unusedVariables false
set_option linter.unusedSimpArgs false
set_option maxRecDepth 20000
theorem res1c {P : Program} {fn : Func} {p : Tmp} {ty : TypeId} (h : fn.results = #[.cell p ty]) (tmps : Array Value) (w : World) (g : Nat) (cs : List Value) (d : TypeDesc)
    (hp : tmps.getD p undef = .pointer (some ⟨g, 0, none⟩)) (hc : w.rangeAt g 0 cs) (hu : P.underlying ty = some d) (hd : d.isRow = true) (hi : (P.info? ty).map (·.size) = some cs.length) :
    (results fn tmps).run P w = .ok (.agg cs.toArray) w := by
  have hp' : tmps[p]?.getD undef = .pointer (some ⟨g, 0, none⟩) := by simpa using hp
  simp [results, h, hp', asAddr, run_loadVar_mid w g 0 ty cs d hc hu hd hi]
theorem size3o : (Tryd.prog.info? 51).map (·.size) = some 3 := by kernel_rfl
def opLo0 (low : Int) : Int := if pkd low 3 = 0 then pkd low 6 else 0
def opHi (low high : Int) : Int := if 0 < pkd high 3 then opLo0 low + pkd high 9 else -1
def opRl (r : Int) : Int := 1 + pkd r 13
def opLo (r low : Int) : Int := if opRl r = 3 ∨ opRl r = 4 ∨ opRl r = 13 then 0 else opLo0 low
set_option maxHeartbeats 16000000 in
theorem option_any (r low high : Int) (w : World) (r1 : -9223372036854775808 ≤ r) (r2 : r ≤ 9223372036854775807) (l1 : -9223372036854775808 ≤ low) (l2 : low ≤ 9223372036854775807) (h1 : -9223372036854775808 ≤ high) (h2 : high ≤ 9223372036854775807) :
    Calls Tryd.prog 18 #[.int .i64 r, .int .i64 low, .int .i64 high] w fun e w' => e = .returned (.agg #[.int .i64 (opRl r), .int .i64 (opLo r low), .int .i64 (opHi low high)]) ∧ Below w.heap.size w w' := by
  have P1 := hid (fun W => picked_any r 13 W r1 r2 (by decide) (by decide))
  have P2 := hid (fun W => picked_any low 3 W l1 l2 (by decide) (by decide))
  have P3 := hid (fun W => picked_any low 6 W l1 l2 (by decide) (by decide))
  have P4 := hid (fun W => picked_any high 3 W h1 h2 (by decide) (by decide))
  have P5 := hid (fun W => picked_any high 9 W h1 h2 (by decide) (by decide))
  have b1 := pkd_in r (m := 13) (by decide)
  have b2 := pkd_in low (m := 3) (by decide)
  have b3 := pkd_in low (m := 6) (by decide)
  have b4 := pkd_in high (m := 3) (by decide)
  have b5 := pkd_in high (m := 9) (by decide)
  unfold opLo opHi opLo0 opRl
  generalize pkd r 13 = x1 at *
  generalize pkd low 3 = x2 at *
  generalize pkd low 6 = x3 at *
  generalize pkd high 3 = x4 at *
  generalize pkd high 9 = x5 at *
  have w1 : RowKit.wrap64 (1 + x1) = 1 + x1 := by unfold RowKit.wrap64; omega
  have w2 : RowKit.wrap64 (x3 + x5) = x3 + x5 := by unfold RowKit.wrap64; omega
  have w4 : RowKit.wrap64 x5 = x5 := by unfold RowKit.wrap64; omega
  have w3 : RowKit.wrap64 (0 + x5) = 0 + x5 := by unfold RowKit.wrap64; omega
  by_cases q2 : x2 = 0
  · by_cases q4 : 0 < x4
    · rcases (by omega : 1 + x1 = 3 ∨ 1 + x1 = 4 ∨ 1 + x1 = 13 ∨ (1 + x1 ≠ 3 ∧ 1 + x1 ≠ 4 ∧ 1 + x1 ≠ 13)) with q3 | q3 | q3 | q3
      · have HV : Hid ((if x2 = 0 then x3 else 0) = x3) := by show _ = _; rw [if_pos q2]
        have HH : Hid ((if 0 < x4 then (if x2 = 0 then x3 else 0) + x5 else -1) = x3 + x5) := by show _ = _; rw [if_pos q4, HV.out]
        have HL : Hid ((if 1 + x1 = 3 ∨ 1 + x1 = 4 ∨ 1 + x1 = 13 then 0 else (if x2 = 0 then x3 else 0)) = 0) := by show _ = _; rw [if_pos (by omega)]
        rw [HL.out, HH.out]
        have d2 : (x2 == 0) = true := by simpa using q2
        have d4 : decide (0 < x4) = true := by simp; omega
        have e3 : ((1 + x1 : Int) == 3) = true := by simp; omega
        have e4 : ((1 + x1 : Int) == 4) = false := by simp; omega
        have e13 : ((1 + x1 : Int) == 13) = false := by simp; omega
        clear q2 q3 b1 b2 b3 b4 b5
        go_enter Tryd.func18, Tryd.ntmps18
        go_wp2_with fail
        refine (P1.out _).mono ?_
        rintro e _ ⟨rfl, rfl⟩
        go_wp2_with fail
        refine (P2.out _).mono ?_
        rintro e _ ⟨rfl, rfl⟩
        go_wp2_with fail
        refine (P3.out _).mono ?_
        rintro e _ ⟨rfl, rfl⟩
        go_wp2_with fail
        refine (P4.out _).mono ?_
        rintro e _ ⟨rfl, rfl⟩
        go_wp2_with fail
        go_region_with ((go_at_call 6; refine (P5.out _).mono ?_; rintro e _ ⟨rfl, rfl⟩))
        all_goals
          go_wp2_with fail
          refine bodyPost_ret (res1c (g := w.heap.size) (cs := [.int .i64 (1 + x1), .int .i64 (0), .int .i64 (x3 + x5)]) rfl _ _ _ (by rfl) ?_ Tryd.underlying51 rfl size3o) rfl ?_
          · intro j v hv
            match j, hv with
            | 0, hv => simp at hv; subst hv; simp [go_sem]
            | 1, hv => simp at hv; subst hv; simp [go_sem]
            | 2, hv => simp at hv; subst hv; simp [go_sem]
          · exact ⟨rfl, by go_grown⟩
      · have HV : Hid ((if x2 = 0 then x3 else 0) = x3) := by show _ = _; rw [if_pos q2]
        have HH : Hid ((if 0 < x4 then (if x2 = 0 then x3 else 0) + x5 else -1) = x3 + x5) := by show _ = _; rw [if_pos q4, HV.out]
        have HL : Hid ((if 1 + x1 = 3 ∨ 1 + x1 = 4 ∨ 1 + x1 = 13 then 0 else (if x2 = 0 then x3 else 0)) = 0) := by show _ = _; rw [if_pos (by omega)]
        rw [HL.out, HH.out]
        have d2 : (x2 == 0) = true := by simpa using q2
        have d4 : decide (0 < x4) = true := by simp; omega
        have e3 : ((1 + x1 : Int) == 3) = false := by simp; omega
        have e4 : ((1 + x1 : Int) == 4) = true := by simp; omega
        have e13 : ((1 + x1 : Int) == 13) = false := by simp; omega
        clear q2 q3 b1 b2 b3 b4 b5
        go_enter Tryd.func18, Tryd.ntmps18
        go_wp2_with fail
        refine (P1.out _).mono ?_
        rintro e _ ⟨rfl, rfl⟩
        go_wp2_with fail
        refine (P2.out _).mono ?_
        rintro e _ ⟨rfl, rfl⟩
        go_wp2_with fail
        refine (P3.out _).mono ?_
        rintro e _ ⟨rfl, rfl⟩
        go_wp2_with fail
        refine (P4.out _).mono ?_
        rintro e _ ⟨rfl, rfl⟩
        go_wp2_with fail
        go_region_with ((go_at_call 6; refine (P5.out _).mono ?_; rintro e _ ⟨rfl, rfl⟩))
        all_goals
          go_wp2_with fail
          refine bodyPost_ret (res1c (g := w.heap.size) (cs := [.int .i64 (1 + x1), .int .i64 (0), .int .i64 (x3 + x5)]) rfl _ _ _ (by rfl) ?_ Tryd.underlying51 rfl size3o) rfl ?_
          · intro j v hv
            match j, hv with
            | 0, hv => simp at hv; subst hv; simp [go_sem]
            | 1, hv => simp at hv; subst hv; simp [go_sem]
            | 2, hv => simp at hv; subst hv; simp [go_sem]
          · exact ⟨rfl, by go_grown⟩
      · have HV : Hid ((if x2 = 0 then x3 else 0) = x3) := by show _ = _; rw [if_pos q2]
        have HH : Hid ((if 0 < x4 then (if x2 = 0 then x3 else 0) + x5 else -1) = x3 + x5) := by show _ = _; rw [if_pos q4, HV.out]
        have HL : Hid ((if 1 + x1 = 3 ∨ 1 + x1 = 4 ∨ 1 + x1 = 13 then 0 else (if x2 = 0 then x3 else 0)) = 0) := by show _ = _; rw [if_pos (by omega)]
        rw [HL.out, HH.out]
        have d2 : (x2 == 0) = true := by simpa using q2
        have d4 : decide (0 < x4) = true := by simp; omega
        have e3 : ((1 + x1 : Int) == 3) = false := by simp; omega
        have e4 : ((1 + x1 : Int) == 4) = false := by simp; omega
        have e13 : ((1 + x1 : Int) == 13) = true := by simp; omega
        clear q2 q3 b1 b2 b3 b4 b5
        go_enter Tryd.func18, Tryd.ntmps18
        go_wp2_with fail
        refine (P1.out _).mono ?_
        rintro e _ ⟨rfl, rfl⟩
        go_wp2_with fail
        refine (P2.out _).mono ?_
        rintro e _ ⟨rfl, rfl⟩
        go_wp2_with fail
        refine (P3.out _).mono ?_
        rintro e _ ⟨rfl, rfl⟩
        go_wp2_with fail
        refine (P4.out _).mono ?_
        rintro e _ ⟨rfl, rfl⟩
        go_wp2_with fail
        go_region_with ((go_at_call 6; refine (P5.out _).mono ?_; rintro e _ ⟨rfl, rfl⟩))
        all_goals
          go_wp2_with fail
          refine bodyPost_ret (res1c (g := w.heap.size) (cs := [.int .i64 (1 + x1), .int .i64 (0), .int .i64 (x3 + x5)]) rfl _ _ _ (by rfl) ?_ Tryd.underlying51 rfl size3o) rfl ?_
          · intro j v hv
            match j, hv with
            | 0, hv => simp at hv; subst hv; simp [go_sem]
            | 1, hv => simp at hv; subst hv; simp [go_sem]
            | 2, hv => simp at hv; subst hv; simp [go_sem]
          · exact ⟨rfl, by go_grown⟩
      · have HV : Hid ((if x2 = 0 then x3 else 0) = x3) := by show _ = _; rw [if_pos q2]
        have HH : Hid ((if 0 < x4 then (if x2 = 0 then x3 else 0) + x5 else -1) = x3 + x5) := by show _ = _; rw [if_pos q4, HV.out]
        have HL : Hid ((if 1 + x1 = 3 ∨ 1 + x1 = 4 ∨ 1 + x1 = 13 then 0 else (if x2 = 0 then x3 else 0)) = x3) := by show _ = _; rw [if_neg (by omega), HV.out]
        rw [HL.out, HH.out]
        have d2 : (x2 == 0) = true := by simpa using q2
        have d4 : decide (0 < x4) = true := by simp; omega
        have e3 : ((1 + x1 : Int) == 3) = false := by simp; omega
        have e4 : ((1 + x1 : Int) == 4) = false := by simp; omega
        have e13 : ((1 + x1 : Int) == 13) = false := by simp; omega
        clear q2 q3 b1 b2 b3 b4 b5
        go_enter Tryd.func18, Tryd.ntmps18
        go_wp2_with fail
        refine (P1.out _).mono ?_
        rintro e _ ⟨rfl, rfl⟩
        go_wp2_with fail
        refine (P2.out _).mono ?_
        rintro e _ ⟨rfl, rfl⟩
        go_wp2_with fail
        refine (P3.out _).mono ?_
        rintro e _ ⟨rfl, rfl⟩
        go_wp2_with fail
        refine (P4.out _).mono ?_
        rintro e _ ⟨rfl, rfl⟩
        go_wp2_with fail
        go_region_with ((go_at_call 6; refine (P5.out _).mono ?_; rintro e _ ⟨rfl, rfl⟩))
        all_goals
          go_wp2_with fail
          refine bodyPost_ret (res1c (g := w.heap.size) (cs := [.int .i64 (1 + x1), .int .i64 (x3), .int .i64 (x3 + x5)]) rfl _ _ _ (by rfl) ?_ Tryd.underlying51 rfl size3o) rfl ?_
          · intro j v hv
            match j, hv with
            | 0, hv => simp at hv; subst hv; simp [go_sem]
            | 1, hv => simp at hv; subst hv; simp [go_sem]
            | 2, hv => simp at hv; subst hv; simp [go_sem]
          · exact ⟨rfl, by go_grown⟩
    · rcases (by omega : 1 + x1 = 3 ∨ 1 + x1 = 4 ∨ 1 + x1 = 13 ∨ (1 + x1 ≠ 3 ∧ 1 + x1 ≠ 4 ∧ 1 + x1 ≠ 13)) with q3 | q3 | q3 | q3
      · have HV : Hid ((if x2 = 0 then x3 else 0) = x3) := by show _ = _; rw [if_pos q2]
        have HH : Hid ((if 0 < x4 then (if x2 = 0 then x3 else 0) + x5 else -1) = -1) := by show _ = _; rw [if_neg q4]
        have HL : Hid ((if 1 + x1 = 3 ∨ 1 + x1 = 4 ∨ 1 + x1 = 13 then 0 else (if x2 = 0 then x3 else 0)) = 0) := by show _ = _; rw [if_pos (by omega)]
        rw [HL.out, HH.out]
        have d2 : (x2 == 0) = true := by simpa using q2
        have d4 : decide (0 < x4) = false := by simp; omega
        have e3 : ((1 + x1 : Int) == 3) = true := by simp; omega
        have e4 : ((1 + x1 : Int) == 4) = false := by simp; omega
        have e13 : ((1 + x1 : Int) == 13) = false := by simp; omega
        clear q2 q3 b1 b2 b3 b4 b5
        go_enter Tryd.func18, Tryd.ntmps18
        go_wp2_with fail
        refine (P1.out _).mono ?_
        rintro e _ ⟨rfl, rfl⟩
        go_wp2_with fail
        refine (P2.out _).mono ?_
        rintro e _ ⟨rfl, rfl⟩
        go_wp2_with fail
        refine (P3.out _).mono ?_
        rintro e _ ⟨rfl, rfl⟩
        go_wp2_with fail
        refine (P4.out _).mono ?_
        rintro e _ ⟨rfl, rfl⟩
        go_wp2_with fail
        refine bodyPost_ret (res1c (g := w.heap.size) (cs := [.int .i64 (1 + x1), .int .i64 (0), .int .i64 (-1)]) rfl _ _ _ (by rfl) ?_ Tryd.underlying51 rfl size3o) rfl ?_
        · intro j v hv
          match j, hv with
          | 0, hv => simp at hv; subst hv; simp [go_sem]
          | 1, hv => simp at hv; subst hv; simp [go_sem]
          | 2, hv => simp at hv; subst hv; simp [go_sem]
        · exact ⟨rfl, by go_grown⟩
      · have HV : Hid ((if x2 = 0 then x3 else 0) = x3) := by show _ = _; rw [if_pos q2]
        have HH : Hid ((if 0 < x4 then (if x2 = 0 then x3 else 0) + x5 else -1) = -1) := by show _ = _; rw [if_neg q4]
        have HL : Hid ((if 1 + x1 = 3 ∨ 1 + x1 = 4 ∨ 1 + x1 = 13 then 0 else (if x2 = 0 then x3 else 0)) = 0) := by show _ = _; rw [if_pos (by omega)]
        rw [HL.out, HH.out]
        have d2 : (x2 == 0) = true := by simpa using q2
        have d4 : decide (0 < x4) = false := by simp; omega
        have e3 : ((1 + x1 : Int) == 3) = false := by simp; omega
        have e4 : ((1 + x1 : Int) == 4) = true := by simp; omega
        have e13 : ((1 + x1 : Int) == 13) = false := by simp; omega
        clear q2 q3 b1 b2 b3 b4 b5
        go_enter Tryd.func18, Tryd.ntmps18
        go_wp2_with fail
        refine (P1.out _).mono ?_
        rintro e _ ⟨rfl, rfl⟩
        go_wp2_with fail
        refine (P2.out _).mono ?_
        rintro e _ ⟨rfl, rfl⟩
        go_wp2_with fail
        refine (P3.out _).mono ?_
        rintro e _ ⟨rfl, rfl⟩
        go_wp2_with fail
        refine (P4.out _).mono ?_
        rintro e _ ⟨rfl, rfl⟩
        go_wp2_with fail
        refine bodyPost_ret (res1c (g := w.heap.size) (cs := [.int .i64 (1 + x1), .int .i64 (0), .int .i64 (-1)]) rfl _ _ _ (by rfl) ?_ Tryd.underlying51 rfl size3o) rfl ?_
        · intro j v hv
          match j, hv with
          | 0, hv => simp at hv; subst hv; simp [go_sem]
          | 1, hv => simp at hv; subst hv; simp [go_sem]
          | 2, hv => simp at hv; subst hv; simp [go_sem]
        · exact ⟨rfl, by go_grown⟩
      · have HV : Hid ((if x2 = 0 then x3 else 0) = x3) := by show _ = _; rw [if_pos q2]
        have HH : Hid ((if 0 < x4 then (if x2 = 0 then x3 else 0) + x5 else -1) = -1) := by show _ = _; rw [if_neg q4]
        have HL : Hid ((if 1 + x1 = 3 ∨ 1 + x1 = 4 ∨ 1 + x1 = 13 then 0 else (if x2 = 0 then x3 else 0)) = 0) := by show _ = _; rw [if_pos (by omega)]
        rw [HL.out, HH.out]
        have d2 : (x2 == 0) = true := by simpa using q2
        have d4 : decide (0 < x4) = false := by simp; omega
        have e3 : ((1 + x1 : Int) == 3) = false := by simp; omega
        have e4 : ((1 + x1 : Int) == 4) = false := by simp; omega
        have e13 : ((1 + x1 : Int) == 13) = true := by simp; omega
        clear q2 q3 b1 b2 b3 b4 b5
        go_enter Tryd.func18, Tryd.ntmps18
        go_wp2_with fail
        refine (P1.out _).mono ?_
        rintro e _ ⟨rfl, rfl⟩
        go_wp2_with fail
        refine (P2.out _).mono ?_
        rintro e _ ⟨rfl, rfl⟩
        go_wp2_with fail
        refine (P3.out _).mono ?_
        rintro e _ ⟨rfl, rfl⟩
        go_wp2_with fail
        refine (P4.out _).mono ?_
        rintro e _ ⟨rfl, rfl⟩
        go_wp2_with fail
        refine bodyPost_ret (res1c (g := w.heap.size) (cs := [.int .i64 (1 + x1), .int .i64 (0), .int .i64 (-1)]) rfl _ _ _ (by rfl) ?_ Tryd.underlying51 rfl size3o) rfl ?_
        · intro j v hv
          match j, hv with
          | 0, hv => simp at hv; subst hv; simp [go_sem]
          | 1, hv => simp at hv; subst hv; simp [go_sem]
          | 2, hv => simp at hv; subst hv; simp [go_sem]
        · exact ⟨rfl, by go_grown⟩
      · have HV : Hid ((if x2 = 0 then x3 else 0) = x3) := by show _ = _; rw [if_pos q2]
        have HH : Hid ((if 0 < x4 then (if x2 = 0 then x3 else 0) + x5 else -1) = -1) := by show _ = _; rw [if_neg q4]
        have HL : Hid ((if 1 + x1 = 3 ∨ 1 + x1 = 4 ∨ 1 + x1 = 13 then 0 else (if x2 = 0 then x3 else 0)) = x3) := by show _ = _; rw [if_neg (by omega), HV.out]
        rw [HL.out, HH.out]
        have d2 : (x2 == 0) = true := by simpa using q2
        have d4 : decide (0 < x4) = false := by simp; omega
        have e3 : ((1 + x1 : Int) == 3) = false := by simp; omega
        have e4 : ((1 + x1 : Int) == 4) = false := by simp; omega
        have e13 : ((1 + x1 : Int) == 13) = false := by simp; omega
        clear q2 q3 b1 b2 b3 b4 b5
        go_enter Tryd.func18, Tryd.ntmps18
        go_wp2_with fail
        refine (P1.out _).mono ?_
        rintro e _ ⟨rfl, rfl⟩
        go_wp2_with fail
        refine (P2.out _).mono ?_
        rintro e _ ⟨rfl, rfl⟩
        go_wp2_with fail
        refine (P3.out _).mono ?_
        rintro e _ ⟨rfl, rfl⟩
        go_wp2_with fail
        refine (P4.out _).mono ?_
        rintro e _ ⟨rfl, rfl⟩
        go_wp2_with fail
        refine bodyPost_ret (res1c (g := w.heap.size) (cs := [.int .i64 (1 + x1), .int .i64 (x3), .int .i64 (-1)]) rfl _ _ _ (by rfl) ?_ Tryd.underlying51 rfl size3o) rfl ?_
        · intro j v hv
          match j, hv with
          | 0, hv => simp at hv; subst hv; simp [go_sem]
          | 1, hv => simp at hv; subst hv; simp [go_sem]
          | 2, hv => simp at hv; subst hv; simp [go_sem]
        · exact ⟨rfl, by go_grown⟩
  · by_cases q4 : 0 < x4
    · rcases (by omega : 1 + x1 = 3 ∨ 1 + x1 = 4 ∨ 1 + x1 = 13 ∨ (1 + x1 ≠ 3 ∧ 1 + x1 ≠ 4 ∧ 1 + x1 ≠ 13)) with q3 | q3 | q3 | q3
      · have HV : Hid ((if x2 = 0 then x3 else 0) = 0) := by show _ = _; rw [if_neg q2]
        have HH : Hid ((if 0 < x4 then (if x2 = 0 then x3 else 0) + x5 else -1) = 0 + x5) := by show _ = _; rw [if_pos q4, HV.out]
        have HL : Hid ((if 1 + x1 = 3 ∨ 1 + x1 = 4 ∨ 1 + x1 = 13 then 0 else (if x2 = 0 then x3 else 0)) = 0) := by show _ = _; rw [if_pos (by omega)]
        rw [HL.out, HH.out]
        have d2 : (x2 == 0) = false := by simpa using q2
        have d4 : decide (0 < x4) = true := by simp; omega
        have e3 : ((1 + x1 : Int) == 3) = true := by simp; omega
        have e4 : ((1 + x1 : Int) == 4) = false := by simp; omega
        have e13 : ((1 + x1 : Int) == 13) = false := by simp; omega
        clear q2 q3 b1 b2 b3 b4 b5
        go_enter Tryd.func18, Tryd.ntmps18
        go_wp2_with fail
        refine (P1.out _).mono ?_
        rintro e _ ⟨rfl, rfl⟩
        go_wp2_with fail
        refine (P2.out _).mono ?_
        rintro e _ ⟨rfl, rfl⟩
        go_wp2_with fail
        refine (P4.out _).mono ?_
        rintro e _ ⟨rfl, rfl⟩
        go_wp2_with fail
        go_region_with ((go_at_call 6; refine (P5.out _).mono ?_; rintro e _ ⟨rfl, rfl⟩))
        all_goals
          go_wp2_with fail
          refine bodyPost_ret (res1c (g := w.heap.size) (cs := [.int .i64 (1 + x1), .int .i64 (0), .int .i64 (0 + x5)]) rfl _ _ _ (by rfl) ?_ Tryd.underlying51 rfl size3o) rfl ?_
          · intro j v hv
            match j, hv with
            | 0, hv => simp at hv; subst hv; simp [go_sem]
            | 1, hv => simp at hv; subst hv; simp [go_sem]
            | 2, hv => simp at hv; subst hv; simp [go_sem]
          · exact ⟨rfl, by go_grown⟩
      · have HV : Hid ((if x2 = 0 then x3 else 0) = 0) := by show _ = _; rw [if_neg q2]
        have HH : Hid ((if 0 < x4 then (if x2 = 0 then x3 else 0) + x5 else -1) = 0 + x5) := by show _ = _; rw [if_pos q4, HV.out]
        have HL : Hid ((if 1 + x1 = 3 ∨ 1 + x1 = 4 ∨ 1 + x1 = 13 then 0 else (if x2 = 0 then x3 else 0)) = 0) := by show _ = _; rw [if_pos (by omega)]
        rw [HL.out, HH.out]
        have d2 : (x2 == 0) = false := by simpa using q2
        have d4 : decide (0 < x4) = true := by simp; omega
        have e3 : ((1 + x1 : Int) == 3) = false := by simp; omega
        have e4 : ((1 + x1 : Int) == 4) = true := by simp; omega
        have e13 : ((1 + x1 : Int) == 13) = false := by simp; omega
        clear q2 q3 b1 b2 b3 b4 b5
        go_enter Tryd.func18, Tryd.ntmps18
        go_wp2_with fail
        refine (P1.out _).mono ?_
        rintro e _ ⟨rfl, rfl⟩
        go_wp2_with fail
        refine (P2.out _).mono ?_
        rintro e _ ⟨rfl, rfl⟩
        go_wp2_with fail
        refine (P4.out _).mono ?_
        rintro e _ ⟨rfl, rfl⟩
        go_wp2_with fail
        go_region_with ((go_at_call 6; refine (P5.out _).mono ?_; rintro e _ ⟨rfl, rfl⟩))
        all_goals
          go_wp2_with fail
          refine bodyPost_ret (res1c (g := w.heap.size) (cs := [.int .i64 (1 + x1), .int .i64 (0), .int .i64 (0 + x5)]) rfl _ _ _ (by rfl) ?_ Tryd.underlying51 rfl size3o) rfl ?_
          · intro j v hv
            match j, hv with
            | 0, hv => simp at hv; subst hv; simp [go_sem]
            | 1, hv => simp at hv; subst hv; simp [go_sem]
            | 2, hv => simp at hv; subst hv; simp [go_sem]
          · exact ⟨rfl, by go_grown⟩
      · have HV : Hid ((if x2 = 0 then x3 else 0) = 0) := by show _ = _; rw [if_neg q2]
        have HH : Hid ((if 0 < x4 then (if x2 = 0 then x3 else 0) + x5 else -1) = 0 + x5) := by show _ = _; rw [if_pos q4, HV.out]
        have HL : Hid ((if 1 + x1 = 3 ∨ 1 + x1 = 4 ∨ 1 + x1 = 13 then 0 else (if x2 = 0 then x3 else 0)) = 0) := by show _ = _; rw [if_pos (by omega)]
        rw [HL.out, HH.out]
        have d2 : (x2 == 0) = false := by simpa using q2
        have d4 : decide (0 < x4) = true := by simp; omega
        have e3 : ((1 + x1 : Int) == 3) = false := by simp; omega
        have e4 : ((1 + x1 : Int) == 4) = false := by simp; omega
        have e13 : ((1 + x1 : Int) == 13) = true := by simp; omega
        clear q2 q3 b1 b2 b3 b4 b5
        go_enter Tryd.func18, Tryd.ntmps18
        go_wp2_with fail
        refine (P1.out _).mono ?_
        rintro e _ ⟨rfl, rfl⟩
        go_wp2_with fail
        refine (P2.out _).mono ?_
        rintro e _ ⟨rfl, rfl⟩
        go_wp2_with fail
        refine (P4.out _).mono ?_
        rintro e _ ⟨rfl, rfl⟩
        go_wp2_with fail
        go_region_with ((go_at_call 6; refine (P5.out _).mono ?_; rintro e _ ⟨rfl, rfl⟩))
        all_goals
          go_wp2_with fail
          refine bodyPost_ret (res1c (g := w.heap.size) (cs := [.int .i64 (1 + x1), .int .i64 (0), .int .i64 (0 + x5)]) rfl _ _ _ (by rfl) ?_ Tryd.underlying51 rfl size3o) rfl ?_
          · intro j v hv
            match j, hv with
            | 0, hv => simp at hv; subst hv; simp [go_sem]
            | 1, hv => simp at hv; subst hv; simp [go_sem]
            | 2, hv => simp at hv; subst hv; simp [go_sem]
          · exact ⟨rfl, by go_grown⟩
      · have HV : Hid ((if x2 = 0 then x3 else 0) = 0) := by show _ = _; rw [if_neg q2]
        have HH : Hid ((if 0 < x4 then (if x2 = 0 then x3 else 0) + x5 else -1) = 0 + x5) := by show _ = _; rw [if_pos q4, HV.out]
        have HL : Hid ((if 1 + x1 = 3 ∨ 1 + x1 = 4 ∨ 1 + x1 = 13 then 0 else (if x2 = 0 then x3 else 0)) = 0) := by show _ = _; rw [if_neg (by omega), HV.out]
        rw [HL.out, HH.out]
        have d2 : (x2 == 0) = false := by simpa using q2
        have d4 : decide (0 < x4) = true := by simp; omega
        have e3 : ((1 + x1 : Int) == 3) = false := by simp; omega
        have e4 : ((1 + x1 : Int) == 4) = false := by simp; omega
        have e13 : ((1 + x1 : Int) == 13) = false := by simp; omega
        clear q2 q3 b1 b2 b3 b4 b5
        go_enter Tryd.func18, Tryd.ntmps18
        go_wp2_with fail
        refine (P1.out _).mono ?_
        rintro e _ ⟨rfl, rfl⟩
        go_wp2_with fail
        refine (P2.out _).mono ?_
        rintro e _ ⟨rfl, rfl⟩
        go_wp2_with fail
        refine (P4.out _).mono ?_
        rintro e _ ⟨rfl, rfl⟩
        go_wp2_with fail
        go_region_with ((go_at_call 6; refine (P5.out _).mono ?_; rintro e _ ⟨rfl, rfl⟩))
        all_goals
          go_wp2_with fail
          refine bodyPost_ret (res1c (g := w.heap.size) (cs := [.int .i64 (1 + x1), .int .i64 (0), .int .i64 (0 + x5)]) rfl _ _ _ (by rfl) ?_ Tryd.underlying51 rfl size3o) rfl ?_
          · intro j v hv
            match j, hv with
            | 0, hv => simp at hv; subst hv; simp [go_sem]
            | 1, hv => simp at hv; subst hv; simp [go_sem]
            | 2, hv => simp at hv; subst hv; simp [go_sem]
          · exact ⟨rfl, by go_grown⟩
    · rcases (by omega : 1 + x1 = 3 ∨ 1 + x1 = 4 ∨ 1 + x1 = 13 ∨ (1 + x1 ≠ 3 ∧ 1 + x1 ≠ 4 ∧ 1 + x1 ≠ 13)) with q3 | q3 | q3 | q3
      · have HV : Hid ((if x2 = 0 then x3 else 0) = 0) := by show _ = _; rw [if_neg q2]
        have HH : Hid ((if 0 < x4 then (if x2 = 0 then x3 else 0) + x5 else -1) = -1) := by show _ = _; rw [if_neg q4]
        have HL : Hid ((if 1 + x1 = 3 ∨ 1 + x1 = 4 ∨ 1 + x1 = 13 then 0 else (if x2 = 0 then x3 else 0)) = 0) := by show _ = _; rw [if_pos (by omega)]
        rw [HL.out, HH.out]
        have d2 : (x2 == 0) = false := by simpa using q2
        have d4 : decide (0 < x4) = false := by simp; omega
        have e3 : ((1 + x1 : Int) == 3) = true := by simp; omega
        have e4 : ((1 + x1 : Int) == 4) = false := by simp; omega
        have e13 : ((1 + x1 : Int) == 13) = false := by simp; omega
        clear q2 q3 b1 b2 b3 b4 b5
        go_enter Tryd.func18, Tryd.ntmps18
        go_wp2_with fail
        refine (P1.out _).mono ?_
        rintro e _ ⟨rfl, rfl⟩
        go_wp2_with fail
        refine (P2.out _).mono ?_
        rintro e _ ⟨rfl, rfl⟩
        go_wp2_with fail
        refine (P4.out _).mono ?_
        rintro e _ ⟨rfl, rfl⟩
        go_wp2_with fail
        refine bodyPost_ret (res1c (g := w.heap.size) (cs := [.int .i64 (1 + x1), .int .i64 (0), .int .i64 (-1)]) rfl _ _ _ (by rfl) ?_ Tryd.underlying51 rfl size3o) rfl ?_
        · intro j v hv
          match j, hv with
          | 0, hv => simp at hv; subst hv; simp [go_sem]
          | 1, hv => simp at hv; subst hv; simp [go_sem]
          | 2, hv => simp at hv; subst hv; simp [go_sem]
        · exact ⟨rfl, by go_grown⟩
      · have HV : Hid ((if x2 = 0 then x3 else 0) = 0) := by show _ = _; rw [if_neg q2]
        have HH : Hid ((if 0 < x4 then (if x2 = 0 then x3 else 0) + x5 else -1) = -1) := by show _ = _; rw [if_neg q4]
        have HL : Hid ((if 1 + x1 = 3 ∨ 1 + x1 = 4 ∨ 1 + x1 = 13 then 0 else (if x2 = 0 then x3 else 0)) = 0) := by show _ = _; rw [if_pos (by omega)]
        rw [HL.out, HH.out]
        have d2 : (x2 == 0) = false := by simpa using q2
        have d4 : decide (0 < x4) = false := by simp; omega
        have e3 : ((1 + x1 : Int) == 3) = false := by simp; omega
        have e4 : ((1 + x1 : Int) == 4) = true := by simp; omega
        have e13 : ((1 + x1 : Int) == 13) = false := by simp; omega
        clear q2 q3 b1 b2 b3 b4 b5
        go_enter Tryd.func18, Tryd.ntmps18
        go_wp2_with fail
        refine (P1.out _).mono ?_
        rintro e _ ⟨rfl, rfl⟩
        go_wp2_with fail
        refine (P2.out _).mono ?_
        rintro e _ ⟨rfl, rfl⟩
        go_wp2_with fail
        refine (P4.out _).mono ?_
        rintro e _ ⟨rfl, rfl⟩
        go_wp2_with fail
        refine bodyPost_ret (res1c (g := w.heap.size) (cs := [.int .i64 (1 + x1), .int .i64 (0), .int .i64 (-1)]) rfl _ _ _ (by rfl) ?_ Tryd.underlying51 rfl size3o) rfl ?_
        · intro j v hv
          match j, hv with
          | 0, hv => simp at hv; subst hv; simp [go_sem]
          | 1, hv => simp at hv; subst hv; simp [go_sem]
          | 2, hv => simp at hv; subst hv; simp [go_sem]
        · exact ⟨rfl, by go_grown⟩
      · have HV : Hid ((if x2 = 0 then x3 else 0) = 0) := by show _ = _; rw [if_neg q2]
        have HH : Hid ((if 0 < x4 then (if x2 = 0 then x3 else 0) + x5 else -1) = -1) := by show _ = _; rw [if_neg q4]
        have HL : Hid ((if 1 + x1 = 3 ∨ 1 + x1 = 4 ∨ 1 + x1 = 13 then 0 else (if x2 = 0 then x3 else 0)) = 0) := by show _ = _; rw [if_pos (by omega)]
        rw [HL.out, HH.out]
        have d2 : (x2 == 0) = false := by simpa using q2
        have d4 : decide (0 < x4) = false := by simp; omega
        have e3 : ((1 + x1 : Int) == 3) = false := by simp; omega
        have e4 : ((1 + x1 : Int) == 4) = false := by simp; omega
        have e13 : ((1 + x1 : Int) == 13) = true := by simp; omega
        clear q2 q3 b1 b2 b3 b4 b5
        go_enter Tryd.func18, Tryd.ntmps18
        go_wp2_with fail
        refine (P1.out _).mono ?_
        rintro e _ ⟨rfl, rfl⟩
        go_wp2_with fail
        refine (P2.out _).mono ?_
        rintro e _ ⟨rfl, rfl⟩
        go_wp2_with fail
        refine (P4.out _).mono ?_
        rintro e _ ⟨rfl, rfl⟩
        go_wp2_with fail
        refine bodyPost_ret (res1c (g := w.heap.size) (cs := [.int .i64 (1 + x1), .int .i64 (0), .int .i64 (-1)]) rfl _ _ _ (by rfl) ?_ Tryd.underlying51 rfl size3o) rfl ?_
        · intro j v hv
          match j, hv with
          | 0, hv => simp at hv; subst hv; simp [go_sem]
          | 1, hv => simp at hv; subst hv; simp [go_sem]
          | 2, hv => simp at hv; subst hv; simp [go_sem]
        · exact ⟨rfl, by go_grown⟩
      · have HV : Hid ((if x2 = 0 then x3 else 0) = 0) := by show _ = _; rw [if_neg q2]
        have HH : Hid ((if 0 < x4 then (if x2 = 0 then x3 else 0) + x5 else -1) = -1) := by show _ = _; rw [if_neg q4]
        have HL : Hid ((if 1 + x1 = 3 ∨ 1 + x1 = 4 ∨ 1 + x1 = 13 then 0 else (if x2 = 0 then x3 else 0)) = 0) := by show _ = _; rw [if_neg (by omega), HV.out]
        rw [HL.out, HH.out]
        have d2 : (x2 == 0) = false := by simpa using q2
        have d4 : decide (0 < x4) = false := by simp; omega
        have e3 : ((1 + x1 : Int) == 3) = false := by simp; omega
        have e4 : ((1 + x1 : Int) == 4) = false := by simp; omega
        have e13 : ((1 + x1 : Int) == 13) = false := by simp; omega
        clear q2 q3 b1 b2 b3 b4 b5
        go_enter Tryd.func18, Tryd.ntmps18
        go_wp2_with fail
        refine (P1.out _).mono ?_
        rintro e _ ⟨rfl, rfl⟩
        go_wp2_with fail
        refine (P2.out _).mono ?_
        rintro e _ ⟨rfl, rfl⟩
        go_wp2_with fail
        refine (P4.out _).mono ?_
        rintro e _ ⟨rfl, rfl⟩
        go_wp2_with fail
        refine bodyPost_ret (res1c (g := w.heap.size) (cs := [.int .i64 (1 + x1), .int .i64 (0), .int .i64 (-1)]) rfl _ _ _ (by rfl) ?_ Tryd.underlying51 rfl size3o) rfl ?_
        · intro j v hv
          match j, hv with
          | 0, hv => simp at hv; subst hv; simp [go_sem]
          | 1, hv => simp at hv; subst hv; simp [go_sem]
          | 2, hv => simp at hv; subst hv; simp [go_sem]
        · exact ⟨rfl, by go_grown⟩
theorem step_call_clo {ops : Array Oper} {o : Oper} {a : Act} {w : World} {K : Act → World → Prop} {Q : Exit → Act → World → Prop} {E : Prop} (f : FuncId) (he : ∀ args w, (callFunc f args).run Tryd.prog w = .ok (.enter f args) w) (hw : Region.wanted o (yielded ops a.tmps) = true) (x0 x1 : Operand) (ts : Array TypeId) (ho : o.op = .call { callee := .value x0, args := #[x1], argTypes := ts }) (c u1 : Value) (h0 : a.eval x0 = .func (.func f) #[] #[c]) (h1 : a.eval x1 = u1)
    (R : Ending → World → Prop) (hc : Calls Tryd.prog f #[u1, c] w R) (h : ∀ e w', R e w' → ∃ v, e = .returned v ∧ K (a.put o.dst v) w') :
    if Region.wanted o (yielded ops a.tmps) = true then Oper.wp Tryd.prog o a w K Q else E := by
  rw [if_pos hw]
  unfold Oper.wp execOp
  simp [ho, resolve, invoke, Deferred.ofValue, h0, h1, he]
  refine hc.mono ?_
  intro e w' hr
  obtain ⟨v, rfl, hk⟩ := h e w' hr
  exact hk
theorem ent_find : ∀ args w, (callFunc 46 args).run Tryd.prog w = .ok (.enter 46 args) w := enters_of Tryd.func46 (by kernel_rfl) rfl
theorem ent_fk : ∀ args w, (callFunc 55 args).run Tryd.prog w = .ok (.enter 55 args) w := enters_of Tryd.func55 (by kernel_rfl) rfl
theorem sck_eq (fs : List Fd) (nm : ByteArray) : sck fs nm = if (fck fs nm).2 = 0 ∧ (fck fs nm).1 ≠ 1 then 13 else (fck fs nm).2 := by
  unfold sck
  have h : (fck fs nm).2 = 0 ∨ (fck fs nm).2 = 6 := by
    unfold fck
    split
    · exact .inr rfl
    · exact .inl rfl
  rcases h with h | h
  · rw [h, if_neg (by decide)]
    by_cases c : (fck fs nm).1 = 1
    · rw [if_pos c, if_neg (by omega)]
    · rw [if_neg c, if_pos ⟨rfl, c⟩]
  · rw [h, if_pos (by decide), if_neg (by omega)]
set_option maxHeartbeats 64000000 in
theorem many_any (ts : List Tp) (ws : List Pt) (ah : List ByteArray) (b mb : Nat) (Ks : Kns) (n : Nat) (hkn : Known ts ws) (hk : Knw ts ws Ks) (hka : Kna ah Ks) (hty : ∀ i (hi : i < ts.length), tyk ts[i].n ts[i].f = 0) (x : Mn) (tv sv : Value) (w : World) (hs : Scp w ts tv b mb Ks n) (hS : Rd w (.row 44 14 x.p.c.sb) sv) (hwz : Wsz x.p.c) (hn : n ≤ 100) :
    Calls Tryd.prog 42 #[scV tv b mb, .agg (.int .i64 x.c :: .string x.f :: ptC x.p.va x.p.ty x.p.c.k sv x.p.c.l x.p.c.r x.p.w x.p.n).toArray] w (PQ w mb (Ks ++ [(x.p.va, (3, tyq ts x.p.ty))]) (n + 1) (mck ts ws ah x)) := by
  have HP := hid (fun (wv : Value) W (hW : Below w.heap.size w W) (hI : Ints W wv [1]) => pattern_any ts ws ah b mb Ks n hkn hk hka hty x.p 3 [1] (.inr (.inr ⟨rfl, rfl⟩)) tv sv wv W (hs.later hW) (hS.later hW) hwz hI hn)
  have HS := hid hs
  have HTYK := hid hty
  obtain ⟨p, m, cap, rfl⟩ := rd_shape hS
  obtain ⟨tp, tn, tc, rfl⟩ := rd_shape hs.rt
  obtain ⟨mc, mf, ⟨va, ty, ⟨ck, csb, l, r⟩, pw, pn⟩⟩ := x
  simp only at HP ⊢
  have HT : Hid (Blk2 w ((w.alloc (.cells [.slice tp tn tc, .func (.func 46) #[] #[.pointer (some ⟨b, 0, none⟩)], .map (some mb)].toArray 108)).alloc (.cells [.int .i64 mc, .string mf, .string va, .string ty, .int .i64 ck, .slice p m cap, .int .i64 l.k, .int .i64 l.vk, .int .i64 l.vi, .string l.vt, .string l.va, .string l.fd, .int .i64 r.k, .int .i64 r.vk, .int .i64 r.vi, .string r.vt, .string r.va, .string r.fd, .int .i64 pw, .int .i64 pn].toArray 78)) [.slice tp tn tc, .func (.func 46) #[] #[.pointer (some ⟨b, 0, none⟩)], .map (some mb)] [.int .i64 mc, .string mf, .string va, .string ty, .int .i64 ck, .slice p m cap, .int .i64 l.k, .int .i64 l.vk, .int .i64 l.vi, .string l.vt, .string l.va, .string l.fd, .int .i64 r.k, .int .i64 r.vk, .int .i64 r.vi, .string r.vt, .string r.va, .string r.fd, .int .i64 pw, .int .i64 pn] 108 78) := Blk2.start w _ _ _ _
  have HMP : Hid (∃ es c, (((w.alloc (.cells [.slice tp tn tc, .func (.func 46) #[] #[.pointer (some ⟨b, 0, none⟩)], .map (some mb)].toArray 108)).alloc (.cells [.int .i64 mc, .string mf, .string va, .string ty, .int .i64 ck, .slice p m cap, .int .i64 l.k, .int .i64 l.vk, .int .i64 l.vi, .string l.vt, .string l.va, .string l.fd, .int .i64 r.k, .int .i64 r.vk, .int .i64 r.vi, .string r.vt, .string r.va, .string r.fd, .int .i64 pw, .int .i64 pn].toArray 78)).alloc (.cells #[.int .i64 1] 3)).heap[mb]? = some (.map es c)) := ((hs.km.later HT.out.bel).later ((Below.refl _ _).alloc (Nat.le_refl _) _)).isMap
  have XP : Hid (((w.alloc (.cells [.slice tp tn tc, .func (.func 46) #[] #[.pointer (some ⟨b, 0, none⟩)], .map (some mb)].toArray 108)).alloc (.cells [.int .i64 mc, .string mf, .string va, .string ty, .int .i64 ck, .slice p m cap, .int .i64 l.k, .int .i64 l.vk, .int .i64 l.vi, .string l.vt, .string l.va, .string l.fd, .int .i64 r.k, .int .i64 r.vk, .int .i64 r.vi, .string r.vt, .string r.va, .string r.fd, .int .i64 pw, .int .i64 pn].toArray 78)).rangeAt (w.heap.size + 1) 2 (ptC va ty ck (.slice p m cap) l r pw pn)) := range_tail HT.out.b2 rfl
  obtain ⟨E, hE⟩ : ∃ E, mck ts ws ah ⟨mc, mf, ⟨va, ty, ⟨ck, csb, l, r⟩, pw, pn⟩⟩ = E := ⟨_, rfl⟩
  rw [hE]
  have HE := hid hE
  obtain ⟨e9, he9⟩ : ∃ e9, pck ts ws ah ⟨va, ty, ⟨ck, csb, l, r⟩, pw, pn⟩ 2 = e9 := ⟨_, rfl⟩
  have HE9 := hid he9
  rw [show ((3 : Int) - 1) = 2 from rfl, he9] at HP
  clear hE he9 hS hs hwz hkn hk hka hty
  cases hem : emp mf with
  | true =>
    have q0 : mf.toList = [] := emp_t hem
    by_cases hr : 1 ≤ mc ∧ mc ≤ 120
    · obtain ⟨g1, g2⟩ := hr
      have g3 : ¬ mc < 1 := by omega
      have g4 : ¬ 120 < mc := by omega
      have HBD : Hid (mbad ⟨mc, mf, ⟨va, ty, ⟨ck, csb, l, r⟩, pw, pn⟩⟩ = false) := by show _ = _; unfold mbad; simp only; rw [hem]; simp; omega
      have HM1 : Hid (e9 = 0 → mck ts ws ah ⟨mc, mf, ⟨va, ty, ⟨ck, csb, l, r⟩, pw, pn⟩⟩ = 0) := fun h => by rw [mck_ok HBD.out (HE9.out.trans h)]; simp only; rw [if_pos hem]
      have HM3 : Hid (e9 ≠ 0 → mck ts ws ah ⟨mc, mf, ⟨va, ty, ⟨ck, csb, l, r⟩, pw, pn⟩⟩ = e9) := fun h => by rw [mck_pat HBD.out (by show pck _ _ _ _ _ ≠ 0; rw [HE9.out]; exact h)]; exact HE9.out
      clear hem
      go_enter Tryd.func42, Tryd.ntmps42
      go_wp2_with ((with_reducible show wpList _ _ _ (Oper.mk _ (.load _ _) _ _ _ _ :: _) _ _); refine wpList_load_mid (by rfl) 46 _ (by rfl) (w.heap.size + 1) 2 (by rfl) (ptC va ty ck (.slice p m cap) l r pw pn) _ XP.out Tryd.underlying46 rfl (by kernel_rfl) ?_)
      have hB : Below w.heap.size w (((w.alloc (.cells [.slice tp tn tc, .func (.func 46) #[] #[.pointer (some ⟨b, 0, none⟩)], .map (some mb)].toArray 108)).alloc (.cells [.int .i64 mc, .string mf, .string va, .string ty, .int .i64 ck, .slice p m cap, .int .i64 l.k, .int .i64 l.vk, .int .i64 l.vi, .string l.vt, .string l.va, .string l.fd, .int .i64 r.k, .int .i64 r.vk, .int .i64 r.vi, .string r.vt, .string r.va, .string r.fd, .int .i64 pw, .int .i64 pn].toArray 78)).alloc (.cells #[.int .i64 1] 3)) := HT.out.bel.alloc HT.out.bel.size _
      have hI : Ints (((w.alloc (.cells [.slice tp tn tc, .func (.func 46) #[] #[.pointer (some ⟨b, 0, none⟩)], .map (some mb)].toArray 108)).alloc (.cells [.int .i64 mc, .string mf, .string va, .string ty, .int .i64 ck, .slice p m cap, .int .i64 l.k, .int .i64 l.vk, .int .i64 l.vi, .string l.vt, .string l.va, .string l.fd, .int .i64 r.k, .int .i64 r.vk, .int .i64 r.vi, .string r.vt, .string r.va, .string r.fd, .int .i64 pw, .int .i64 pn].toArray 78)).alloc (.cells #[.int .i64 1] 3)) (.slice (some ⟨w.heap.size + 1 + 1, 0, none⟩) 1 1) [1] := ⟨_, 1, rfl, Nat.le_refl _, by decide, fun k hk => by
        have hk' : k < 1 := hk
        have e9 : ((w.alloc (.cells [.slice tp tn tc, .func (.func 46) #[] #[.pointer (some ⟨b, 0, none⟩)], .map (some mb)].toArray 108)).alloc (.cells [.int .i64 mc, .string mf, .string va, .string ty, .int .i64 ck, .slice p m cap, .int .i64 l.k, .int .i64 l.vk, .int .i64 l.vi, .string l.vt, .string l.va, .string l.fd, .int .i64 r.k, .int .i64 r.vk, .int .i64 r.vi, .string r.vt, .string r.va, .string r.fd, .int .i64 pw, .int .i64 pn].toArray 78)).heap.size = w.heap.size + 1 + 1 := by simp
        rw [← e9, cell_of_blk (heap_alloc_new _ _)]
        obtain rfl : k = 0 := by omega
        rfl⟩
      have X := HP.out _ _ hB hI
      have HB := hid hB
      have HTB : Hid (Blk2 w (((w.alloc (.cells [.slice tp tn tc, .func (.func 46) #[] #[.pointer (some ⟨b, 0, none⟩)], .map (some mb)].toArray 108)).alloc (.cells [.int .i64 mc, .string mf, .string va, .string ty, .int .i64 ck, .slice p m cap, .int .i64 l.k, .int .i64 l.vk, .int .i64 l.vi, .string l.vt, .string l.va, .string l.fd, .int .i64 r.k, .int .i64 r.vk, .int .i64 r.vi, .string r.vt, .string r.va, .string r.fd, .int .i64 pw, .int .i64 pn].toArray 78)).alloc (.cells #[.int .i64 1] 3)) [.slice tp tn tc, .func (.func 46) #[] #[.pointer (some ⟨b, 0, none⟩)], .map (some mb)] [.int .i64 mc, .string mf, .string va, .string ty, .int .i64 ck, .slice p m cap, .int .i64 l.k, .int .i64 l.vk, .int .i64 l.vi, .string l.vt, .string l.va, .string l.fd, .int .i64 r.k, .int .i64 r.vk, .int .i64 r.vi, .string r.vt, .string r.va, .string r.fd, .int .i64 pw, .int .i64 pn] 108 78) := HT.out.alloc _
      clear hI hB
      refine X.mono ?_
      intro e w3 hr
      clear X
      by_cases h9 : e9 = 0
      · have hr2 := hr
        rw [h9] at hr2
        obtain ⟨rfl, hF, hK⟩ := hr2.pq HB.out
        have HF := hid hF
        have HK := hid (hK rfl)
        have hf3 := (hr2.2.2 rfl).1
        clear hF hK hr hr2
        have HR : Hid (E = 0) := by show _ = _; rw [← HE.out]; exact HM1.out h9
        have c1 : w3.cell? ⟨w.heap.size + 1, 1, none⟩ = some (.string mf) := cell_fr HMP.out hf3 (HTB.out.c2 1)
        clear hf3 h9
        go_wp2_with fail
        go_ret
        exact ⟨by rw [HR.out]; rfl, HF.out, fun _ => HK.out⟩
      · obtain ⟨rfl, hF, _⟩ := hr.pq HB.out
        have HF := hid hF
        have HR : Hid (E = e9) := by show _ = _; rw [← HE.out]; exact HM3.out h9
        have H9 := hid h9
        have d1 : (e9 != 0) = true := by simpa using h9
        clear hr h9 hF
        go_wp2_with fail
        go_ret
        exact ⟨by rw [HR.out]; rfl, HF.out, fun c => absurd (HR.out.symm.trans c) H9.out⟩
    · have HBD : Hid (mbad ⟨mc, mf, ⟨va, ty, ⟨ck, csb, l, r⟩, pw, pn⟩⟩ = true) := by show _ = _; unfold mbad; simp only; rw [hem]; simp; omega
      by_cases hlo : mc < 1
      · clear hr hem
        have HR : Hid (E = 2) := by show _ = _; rw [← HE.out]; exact mck_bad HBD.out
        go_enter Tryd.func42, Tryd.ntmps42
        go_wp2_with fail
        go_ret
        exact ⟨by rw [HR.out]; rfl, Fr.of_below HT.out.bel, fun c => by rw [HR.out] at c; cases c⟩
      · have g2 : 120 < mc := by omega
        clear hr hem
        have HR : Hid (E = 2) := by show _ = _; rw [← HE.out]; exact mck_bad HBD.out
        go_enter Tryd.func42, Tryd.ntmps42
        go_wp2_with fail
        go_ret
        exact ⟨by rw [HR.out]; rfl, Fr.of_below HT.out.bel, fun c => by rw [HR.out] at c; cases c⟩
  | false =>
    obtain ⟨q0, q1⟩ := emp_f hem
    by_cases hr : 0 ≤ mc ∧ mc ≤ 1125899906842624
    · obtain ⟨g1, g2⟩ := hr
      have g3 : ¬ mc < 0 := by omega
      have g4 : ¬ 1125899906842624 < mc := by omega
      have HBD : Hid (mbad ⟨mc, mf, ⟨va, ty, ⟨ck, csb, l, r⟩, pw, pn⟩⟩ = false) := by show _ = _; unfold mbad; simp only; rw [hem]; simp; omega
      have HM1 : Hid (∀ ix (hix : ix < ts.length), tyq ts ty = (ix : Int) → e9 = 0 → mck ts ws ah ⟨mc, mf, ⟨va, ty, ⟨ck, csb, l, r⟩, pw, pn⟩⟩ = sck ts[ix].f mf) := fun ix hix ht h => by rw [mck_ok HBD.out (HE9.out.trans h)]; simp only; rw [if_neg (by rw [hem]; decide), ht]; simp [hix]
      have HM3 : Hid (e9 ≠ 0 → mck ts ws ah ⟨mc, mf, ⟨va, ty, ⟨ck, csb, l, r⟩, pw, pn⟩⟩ = e9) := fun h => by rw [mck_pat HBD.out (by show pck _ _ _ _ _ ≠ 0; rw [HE9.out]; exact h)]; exact HE9.out
      clear hem
      go_enter Tryd.func42, Tryd.ntmps42
      go_wp2_with ((with_reducible show wpList _ _ _ (Oper.mk _ (.load _ _) _ _ _ _ :: _) _ _); refine wpList_load_mid (by rfl) 46 _ (by rfl) (w.heap.size + 1) 2 (by rfl) (ptC va ty ck (.slice p m cap) l r pw pn) _ XP.out Tryd.underlying46 rfl (by kernel_rfl) ?_)
      have hB : Below w.heap.size w (((w.alloc (.cells [.slice tp tn tc, .func (.func 46) #[] #[.pointer (some ⟨b, 0, none⟩)], .map (some mb)].toArray 108)).alloc (.cells [.int .i64 mc, .string mf, .string va, .string ty, .int .i64 ck, .slice p m cap, .int .i64 l.k, .int .i64 l.vk, .int .i64 l.vi, .string l.vt, .string l.va, .string l.fd, .int .i64 r.k, .int .i64 r.vk, .int .i64 r.vi, .string r.vt, .string r.va, .string r.fd, .int .i64 pw, .int .i64 pn].toArray 78)).alloc (.cells #[.int .i64 1] 3)) := HT.out.bel.alloc HT.out.bel.size _
      have hI : Ints (((w.alloc (.cells [.slice tp tn tc, .func (.func 46) #[] #[.pointer (some ⟨b, 0, none⟩)], .map (some mb)].toArray 108)).alloc (.cells [.int .i64 mc, .string mf, .string va, .string ty, .int .i64 ck, .slice p m cap, .int .i64 l.k, .int .i64 l.vk, .int .i64 l.vi, .string l.vt, .string l.va, .string l.fd, .int .i64 r.k, .int .i64 r.vk, .int .i64 r.vi, .string r.vt, .string r.va, .string r.fd, .int .i64 pw, .int .i64 pn].toArray 78)).alloc (.cells #[.int .i64 1] 3)) (.slice (some ⟨w.heap.size + 1 + 1, 0, none⟩) 1 1) [1] := ⟨_, 1, rfl, Nat.le_refl _, by decide, fun k hk => by
        have hk' : k < 1 := hk
        have e9 : ((w.alloc (.cells [.slice tp tn tc, .func (.func 46) #[] #[.pointer (some ⟨b, 0, none⟩)], .map (some mb)].toArray 108)).alloc (.cells [.int .i64 mc, .string mf, .string va, .string ty, .int .i64 ck, .slice p m cap, .int .i64 l.k, .int .i64 l.vk, .int .i64 l.vi, .string l.vt, .string l.va, .string l.fd, .int .i64 r.k, .int .i64 r.vk, .int .i64 r.vi, .string r.vt, .string r.va, .string r.fd, .int .i64 pw, .int .i64 pn].toArray 78)).heap.size = w.heap.size + 1 + 1 := by simp
        rw [← e9, cell_of_blk (heap_alloc_new _ _)]
        obtain rfl : k = 0 := by omega
        rfl⟩
      have X := HP.out _ _ hB hI
      have HB := hid hB
      have HTB : Hid (Blk2 w (((w.alloc (.cells [.slice tp tn tc, .func (.func 46) #[] #[.pointer (some ⟨b, 0, none⟩)], .map (some mb)].toArray 108)).alloc (.cells [.int .i64 mc, .string mf, .string va, .string ty, .int .i64 ck, .slice p m cap, .int .i64 l.k, .int .i64 l.vk, .int .i64 l.vi, .string l.vt, .string l.va, .string l.fd, .int .i64 r.k, .int .i64 r.vk, .int .i64 r.vi, .string r.vt, .string r.va, .string r.fd, .int .i64 pw, .int .i64 pn].toArray 78)).alloc (.cells #[.int .i64 1] 3)) [.slice tp tn tc, .func (.func 46) #[] #[.pointer (some ⟨b, 0, none⟩)], .map (some mb)] [.int .i64 mc, .string mf, .string va, .string ty, .int .i64 ck, .slice p m cap, .int .i64 l.k, .int .i64 l.vk, .int .i64 l.vi, .string l.vt, .string l.va, .string l.fd, .int .i64 r.k, .int .i64 r.vk, .int .i64 r.vi, .string r.vt, .string r.va, .string r.fd, .int .i64 pw, .int .i64 pn] 108 78) := HT.out.alloc _
      clear hI hB
      refine X.mono ?_
      intro e w3 hr
      clear X
      by_cases h9 : e9 = 0
      · have hr2 := hr
        rw [h9] at hr2
        obtain ⟨rfl, hF, hK⟩ := hr2.pq HB.out
        have HF := hid hF
        have HK := hid (hK rfl)
        have hf3 := (hr2.2.2 rfl).1
        clear hF hK hr hr2
        obtain ⟨ix, hix, hty2⟩ := pck_known (HE9.out.trans h9)
        obtain ⟨p', cap', e0, _, hat⟩ := rd_row lenY HS.out.rt
        have etn := (rd_caps HS.out.rt).1
        simp only [Value.slice.injEq] at e0
        obtain ⟨rfl, hx0, rfl⟩ := e0
        obtain ⟨gt, oft, rfl, hrd⟩ := hat (by omega)
        obtain ⟨T2, t1, t2⟩ := hrd (((w.alloc (.cells [.slice (some ⟨gt, oft, none⟩) tn tc, .func (.func 46) #[] #[.pointer (some ⟨b, 0, none⟩)], .map (some mb)].toArray 108)).alloc (.cells [.int .i64 mc, .string mf, .string va, .string ty, .int .i64 ck, .slice p m cap, .int .i64 l.k, .int .i64 l.vk, .int .i64 l.vi, .string l.vt, .string l.va, .string l.fd, .int .i64 r.k, .int .i64 r.vk, .int .i64 r.vi, .string r.vt, .string r.va, .string r.fd, .int .i64 pw, .int .i64 pn].toArray 78)).alloc (.cells #[.int .i64 1] 3)) HB.out ix hix
        obtain ⟨fv2, zt, o3⟩ := rdY t2
        have ZT : Hid ((Tryd.prog.info? 71).map (·.size) = some T2.length) := by show _ = _; rw [zt]; kernel_rfl
        have hs3 : Scp w3 ts (.slice (some ⟨gt, oft, none⟩) tn tc) b mb (Ks ++ [(va, (3, tyq ts ty))]) (n + 1) := (HS.out.later HB.out).fr hf3 HK.out
        have HFT : Hid (∀ W, Below w3.heap.size w3 W → Calls Tryd.prog 46 #[.string ty, .pointer (some ⟨b, 0, none⟩)] W fun e w' => e = .returned (.int .i64 (ix : Int)) ∧ Below W.heap.size W w') := fun W hW => by rw [← hty2]; exact find_any ts _ ty b W (hs3.later hW).rt (hs3.later hW).fd
        have o4 := Rd.fr HMP.out hf3 o3
        have HFK : Hid (∀ W, Below w3.heap.size w3 W → Calls Tryd.prog 55 #[.agg T2.toArray, .string mf] W fun e w' => e = .returned (.tuple #[.int .i64 (fck ts[ix].f mf).1, .int .i64 (fck ts[ix].f mf).2]) ∧ Below W.heap.size W w') := fun W hW => by rw [zt]; exact fieldKind_any _ _ fv2 mf W (o4.later hW) (HTYK.out ix hix)
        have HR : Hid (E = if (fck ts[ix].f mf).2 = 0 ∧ (fck ts[ix].f mf).1 ≠ 1 then 13 else (fck ts[ix].f mf).2) := by show _ = _; rw [← HE.out, HM1.out ix hix hty2 h9, sck_eq]
        obtain ⟨⟨f1, f2⟩, hf⟩ : ∃ x, fck ts[ix].f mf = x := ⟨_, rfl⟩
        rw [hf] at HFK HR
        have HK0' : w3.cell? ⟨w.heap.size, 0, none⟩ = some (.slice (some ⟨gt, oft, none⟩) tn tc) ∧ w3.cell? ⟨w.heap.size, 1, none⟩ = some (.func (.func 46) #[] #[.pointer (some ⟨b, 0, none⟩)]) ∧ w3.cell? ⟨w.heap.size + 1, 3, none⟩ = some (.string ty) ∧ w3.cell? ⟨w.heap.size + 1, 1, none⟩ = some (.string mf) ∧ w3.rangeAt gt (oft + ix * 2) T2 :=
          ⟨cell_fr HMP.out hf3 (HTB.out.c1 0), cell_fr HMP.out hf3 (HTB.out.c1 1), cell_fr HMP.out hf3 (HTB.out.c2 3), cell_fr HMP.out hf3 (HTB.out.c2 1), range_fr HMP.out hf3 t1⟩
        have HK0 : Hid (w3.drew.cell? ⟨w.heap.size, 0, none⟩ = some (.slice (some ⟨gt, oft, none⟩) tn tc) ∧ w3.drew.cell? ⟨w.heap.size, 1, none⟩ = some (.func (.func 46) #[] #[.pointer (some ⟨b, 0, none⟩)]) ∧ w3.drew.cell? ⟨w.heap.size + 1, 3, none⟩ = some (.string ty) ∧ w3.drew.cell? ⟨w.heap.size + 1, 1, none⟩ = some (.string mf) ∧ w3.drew.rangeAt gt (oft + ix * 2) T2) := HK0'
        have HKB : Hid (∀ W, Below w3.heap.size w3 W → W.cell? ⟨w.heap.size, 0, none⟩ = some (.slice (some ⟨gt, oft, none⟩) tn tc) ∧ W.cell? ⟨w.heap.size, 1, none⟩ = some (.func (.func 46) #[] #[.pointer (some ⟨b, 0, none⟩)]) ∧ W.cell? ⟨w.heap.size + 1, 3, none⟩ = some (.string ty) ∧ W.cell? ⟨w.heap.size + 1, 1, none⟩ = some (.string mf) ∧ W.rangeAt gt (oft + ix * 2) T2) := fun W hW =>
          ⟨(hW.cell (World.block_lt_of_cell? _ _ HK0'.1)).trans HK0'.1, (hW.cell (World.block_lt_of_cell? _ _ HK0'.2.1)).trans HK0'.2.1, (hW.cell (World.block_lt_of_cell? _ _ HK0'.2.2.1)).trans HK0'.2.2.1, (hW.cell (World.block_lt_of_cell? _ _ HK0'.2.2.2.1)).trans HK0'.2.2.2.1, range_below HK0'.2.2.2.2 hW⟩
        have c1 := HK0'.2.2.2.1
        have i1 : (0 : Int) ≤ (ix : Int) := by omega
        have i2 : (ix : Int) < (tn : Int) := by omega
        clear hf3 h9 HK0' hf o3 o4 zt t1 t2 hrd hat etn hx0 hix hty2 hs3
        go_wp2_with fail
        refine start_n (S := (fun w' => w'.cell? ⟨w.heap.size, 0, none⟩ = some (.slice (some ⟨gt, oft, none⟩) tn tc) ∧ w'.cell? ⟨w.heap.size, 1, none⟩ = some (.func (.func 46) #[] #[.pointer (some ⟨b, 0, none⟩)]) ∧ w'.cell? ⟨w.heap.size + 1, 3, none⟩ = some (.string ty) ∧ w'.cell? ⟨w.heap.size + 1, 1, none⟩ = some (.string mf) ∧ w'.rangeAt gt (oft + ix * 2) T2)) 18 #[false, false, false, false, false, false, false, false, false, false, false, false, false, false, false, false, false, false] rfl rfl (by kernel_rfl) (by { exact HK0.out }) (fun hHeld => ?_)
        refine take_mk (i := 0) (v := ?v1) rfl (by kernel_rfl) (by kernel_rfl) (by kernel_rfl) (fun _ _ _ h => h) (Or.inl ⟨by rfl, ?hy1⟩) (by assumption) ?rest1
        case hy1 => (intro w0 hSw; (try dsimp only at hSw); go_simp <;> (try (with_reducible rfl)))
        (try simp only [Act.put, List.setIfInBounds_toArray, List.set_cons_zero, List.set_cons_succ])
        refine take_mk (i := 1) (v := ?v2) rfl (by kernel_rfl) (by kernel_rfl) (by kernel_rfl) (fun _ _ _ h => h) (Or.inl ⟨by rfl, ?hy2⟩) (by assumption) ?rest2
        case hy2 => (intro w0 hSw; (try dsimp only at hSw); go_simp <;> (try (with_reducible rfl)))
        (try simp only [Act.put, List.setIfInBounds_toArray, List.set_cons_zero, List.set_cons_succ])
        refine take_mk (i := 2) (v := ?v3) rfl (by kernel_rfl) (by kernel_rfl) (by kernel_rfl) (fun _ _ _ h => h) (Or.inl ⟨by rfl, ?hy3⟩) (by assumption) ?rest3
        case hy3 => (intro w0 hSw; (try dsimp only at hSw); go_simp <;> (try (with_reducible rfl)))
        (try simp only [Act.put, List.setIfInBounds_toArray, List.set_cons_zero, List.set_cons_succ])
        refine take_mk (i := 3) (v := ?v4) rfl (by kernel_rfl) (by kernel_rfl) (by kernel_rfl) (fun _ _ _ h => h) (Or.inl ⟨by rfl, ?hy4⟩) (by assumption) ?rest4
        case hy4 => (intro w0 hSw; (try dsimp only at hSw); go_simp <;> (try (with_reducible rfl)))
        (try simp only [Act.put, List.setIfInBounds_toArray, List.set_cons_zero, List.set_cons_succ])
        refine take_mk (i := 4) (v := ?v5) rfl (by kernel_rfl) (by kernel_rfl) (by kernel_rfl) (fun _ _ _ h => h) (Or.inl ⟨by rfl, ?hy5⟩) (by assumption) ?rest5
        case hy5 => (intro w0 hSw; (try dsimp only at hSw); go_simp <;> (try (with_reducible rfl)))
        (try simp only [Act.put, List.setIfInBounds_toArray, List.set_cons_zero, List.set_cons_succ])
        refine take_mk (i := 5) (v := ?v6) rfl (by kernel_rfl) (by kernel_rfl) (by kernel_rfl) (fun _ _ _ h => h) (Or.inl ⟨by rfl, ?hy6⟩) (by assumption) ?rest6
        case hy6 => (intro w0 hSw; (try dsimp only at hSw); go_simp <;> (try (with_reducible rfl)))
        (try simp only [Act.put, List.setIfInBounds_toArray, List.set_cons_zero, List.set_cons_succ])
        refine take_mk (i := 6) (v := ?v7) rfl (by kernel_rfl) (by kernel_rfl) (by kernel_rfl) (fun _ _ _ h => h) (Or.inl ⟨by rfl, ?hy7⟩) (by assumption) ?rest7
        case hy7 => (intro w0 hSw; (try dsimp only at hSw); go_simp <;> (try (with_reducible rfl)))
        (try simp only [Act.put, List.setIfInBounds_toArray, List.set_cons_zero, List.set_cons_succ])
        refine take_mk (i := 10) (v := ?v8) rfl (by kernel_rfl) (by kernel_rfl) (by kernel_rfl) (fun _ _ _ h => h) (Or.inl ⟨by rfl, ?hy8⟩) (by assumption) ?rest8
        case hy8 => (intro w0 hSw; (try dsimp only at hSw); go_simp <;> (try (with_reducible rfl)))
        (try simp only [Act.put, List.setIfInBounds_toArray, List.set_cons_zero, List.set_cons_succ])
        refine take_mk (i := 11) (v := ?v9) rfl (by kernel_rfl) (by kernel_rfl) (by kernel_rfl) (fun _ _ _ h => h) (Or.inl ⟨by rfl, ?hy9⟩) (by assumption) ?rest9
        case hy9 => (intro w0 hSw; (try dsimp only at hSw); go_simp <;> (try (with_reducible rfl)))
        (try simp only [Act.put, List.setIfInBounds_toArray, List.set_cons_zero, List.set_cons_succ])
        refine wpAnyH_ready (rs := [7]) (by kernel_rfl) (by simp) ?_
        refine cons_mk rfl (fun K hK => ?_) AllReadyH.nil
        refine step_call_clo 46 ent_find (by rfl) _ _ _ (by rfl) (.pointer (some ⟨b, 0, none⟩)) (.string ty) (by rfl) (by rfl) _ (HFT.out _ (Below.drew (Below.refl _ _))) ?_
        rintro e w9 ⟨rfl, hb9⟩
        refine ⟨_, rfl, ?_⟩
        have HB9 : Hid (Below w3.heap.size w3 w9) := below_trans (Below.drew (Below.refl _ _)) hb9 (Nat.le_refl _)
        clear hb9
        refine hK.out _ _ (by { exact HKB.out _ HB9.out }) (fun hHeld => ?_)
        clear hK K
        (try simp only [Act.put, List.setIfInBounds_toArray, List.set_cons_zero, List.set_cons_succ])
        refine take_mk (i := 8) (v := ?v10) rfl (by kernel_rfl) (by kernel_rfl) (by kernel_rfl) (fun _ _ _ h => h) (Or.inl ⟨by rfl, ?hy10⟩) (by assumption) ?rest10
        case hy10 => (intro w0 hSw; (try dsimp only at hSw); go_simp <;> (try (with_reducible rfl)))
        (try simp only [Act.put, List.setIfInBounds_toArray, List.set_cons_zero, List.set_cons_succ])
        refine take_mk (i := 9) rfl (by kernel_rfl) (by kernel_rfl) (by kernel_rfl) (fun _ _ _ h => h) (yieldsIf_load_mid (by rfl) 71 _ rfl gt (oft + ix * 2) (by rfl) T2 _ (fun _ h => h.2.2.2.2) Tryd.underlying71 rfl ZT.out) (by assumption) ?_
        (try simp only [Act.put, List.setIfInBounds_toArray, List.set_cons_zero, List.set_cons_succ])
        refine wpAnyH_ready (rs := [12]) (by kernel_rfl) (by simp) ?_
        refine cons_mk rfl (fun K hK => ?_) AllReadyH.nil
        refine step_call2 55 ent_fk (by rfl) _ _ _ (by rfl) (.agg T2.toArray) (.string mf) (by rfl) (by rfl) _ (HFK.out _ HB9.out) ?_
        rintro e w10 ⟨rfl, hb10⟩
        refine ⟨_, rfl, ?_⟩
        have HB10 : Hid (Below w3.heap.size w3 w10) := below_trans HB9.out hb10 HB9.out.size
        clear hb10
        refine hK.out _ _ (by { exact HKB.out _ HB10.out }) (fun hHeld => ?_)
        clear hK K
        (try simp only [Act.put, List.setIfInBounds_toArray, List.set_cons_zero, List.set_cons_succ])
        refine take_mk (i := 13) (v := ?v11) rfl (by kernel_rfl) (by kernel_rfl) (by kernel_rfl) (fun _ _ _ h => h) (Or.inl ⟨by rfl, ?hy11⟩) (by assumption) ?rest11
        case hy11 => (intro w0 hSw; (try dsimp only at hSw); go_simp <;> (try (with_reducible rfl)))
        (try simp only [Act.put, List.setIfInBounds_toArray, List.set_cons_zero, List.set_cons_succ])
        refine take_mk (i := 14) (v := ?v12) rfl (by kernel_rfl) (by kernel_rfl) (by kernel_rfl) (fun _ _ _ h => h) (Or.inl ⟨by rfl, ?hy12⟩) (by assumption) ?rest12
        case hy12 => (intro w0 hSw; (try dsimp only at hSw); go_simp <;> (try (with_reducible rfl)))
        (try simp only [Act.put, List.setIfInBounds_toArray, List.set_cons_zero, List.set_cons_succ])
        refine take_mk (i := 15) (v := ?v13) rfl (by kernel_rfl) (by kernel_rfl) (by kernel_rfl) (fun _ _ _ h => h) (Or.inl ⟨by rfl, ?hy13⟩) (by assumption) ?rest13
        case hy13 => (intro w0 hSw; (try dsimp only at hSw); go_simp <;> (try (with_reducible rfl)))
        (try simp only [Act.put, List.setIfInBounds_toArray, List.set_cons_zero, List.set_cons_succ])
        refine take_mk (i := 16) (v := ?v14) rfl (by kernel_rfl) (by kernel_rfl) (by kernel_rfl) (fun _ _ _ h => h) (Or.inl ⟨by rfl, ?hy14⟩) (by assumption) ?rest14
        case hy14 => (intro w0 hSw; (try dsimp only at hSw); go_simp <;> (try (with_reducible rfl)))
        (try simp only [Act.put, List.setIfInBounds_toArray, List.set_cons_zero, List.set_cons_succ])
        refine take_mk (i := 17) (v := ?v15) rfl (by kernel_rfl) (by kernel_rfl) (by kernel_rfl) (fun _ _ _ h => h) (Or.inl ⟨by rfl, ?hy15⟩) (by assumption) ?rest15
        case hy15 => (intro w0 hSw; (try dsimp only at hSw); go_simp <;> (try (with_reducible rfl)))
        (try simp only [Act.put, List.setIfInBounds_toArray, List.set_cons_zero, List.set_cons_succ])
        refine wpAnyH_done (by kernel_rfl) ?_ _
        clear hHeld c1
        have HFF : Hid (Fr (fun i => i = mb) w w10) := HF.out.trans (Fr.of_below HB10.out)
        have HKK : Hid (Km w10 mb (Ks ++ [(va, (3, tyq ts ty))]) (n + 1)) := HK.out.later HB10.out
        by_cases hz : f2 = 0
        · subst hz
          by_cases hy : f1 = 1
          · subst hy
            have HR2 : Hid (E = 0) := by show _ = _; rw [HR.out]; simp
            go_wp2_with fail
            go_ret
            exact ⟨by rw [HR2.out]; rfl, HFF.out, fun _ => HKK.out⟩
          · have HR2 : Hid (E = 13) := by show _ = _; rw [HR.out]; simp [hy]
            have d1 : (f1 != 1) = true := by simpa using hy
            clear hy
            go_wp2_with fail
            go_ret
            exact ⟨by rw [HR2.out]; rfl, HFF.out, fun c => by rw [HR2.out] at c; cases c⟩
        · have HR2 : Hid (E = f2) := by show _ = _; rw [HR.out]; simp [hz]
          have d1 : (f2 == 0) = false := by simpa using hz
          have HZ := hid hz
          clear hz
          go_wp2_with fail
          go_ret
          exact ⟨by rw [HR2.out]; rfl, HFF.out, fun c => absurd (HR2.out.symm.trans c) HZ.out⟩
      · obtain ⟨rfl, hF, _⟩ := hr.pq HB.out
        have HF := hid hF
        have HR : Hid (E = e9) := by show _ = _; rw [← HE.out]; exact HM3.out h9
        have H9 := hid h9
        have d1 : (e9 != 0) = true := by simpa using h9
        clear hr h9 hF
        go_wp2_with fail
        go_ret
        exact ⟨by rw [HR.out]; rfl, HF.out, fun c => absurd (HR.out.symm.trans c) H9.out⟩
    · have HBD : Hid (mbad ⟨mc, mf, ⟨va, ty, ⟨ck, csb, l, r⟩, pw, pn⟩⟩ = true) := by show _ = _; unfold mbad; simp only; rw [hem]; simp; omega
      by_cases hlo : mc < 0
      · clear hr hem
        have HR : Hid (E = 2) := by show _ = _; rw [← HE.out]; exact mck_bad HBD.out
        go_enter Tryd.func42, Tryd.ntmps42
        go_wp2_with fail
        go_ret
        exact ⟨by rw [HR.out]; rfl, Fr.of_below HT.out.bel, fun c => by rw [HR.out] at c; cases c⟩
      · have g2 : 1125899906842624 < mc := by omega
        clear hr hem
        have HR : Hid (E = 2) := by show _ = _; rw [← HE.out]; exact mck_bad HBD.out
        go_enter Tryd.func42, Tryd.ntmps42
        go_wp2_with fail
        go_ret
        exact ⟨by rw [HR.out]; rfl, Fr.of_below HT.out.bel, fun c => by rw [HR.out] at c; cases c⟩
end Go.Proofs.YtdihklfaiiclgaaDoor.Chk
