/-
  An option of raw numbers.
-/
import Derived.Test.YtgikaheojcpmpabDoorE
import Derived.Deep.MidRow
namespace Go.Proofs.YtgikaheojcpmpabDoor
open Go.ChangeShapes Go.WideShapes Go.ChangeAt Go.RowKit Go.Maps
set_option linter.unusedVariables false
set_option linter.unusedSimpArgs false
set_option maxRecDepth 20000
theorem tm_bd (n m : Int) (hn : n < 0) (hm : 0 < m) : 0 ≤ -((n + 1).tmod m) ∧ -((n + 1).tmod m) < m := by
  have e : -((n + 1).tmod m) = (-(n + 1)).tmod m := (Int.neg_tmod _ _).symm
  rw [e]
  exact ⟨Int.tmod_nonneg _ (by omega), Int.tmod_lt_of_pos _ hm⟩
def pkd (n m : Int) : Int := if 0 ≤ n then n % m else -((n + 1).tmod m)
theorem pkd_in (n : Int) {m : Int} (hm : 0 < m) : 0 ≤ pkd n m ∧ pkd n m < m := by
  unfold pkd
  split
  · exact ⟨Int.emod_nonneg n (by omega), Int.emod_lt_of_pos n hm⟩
  · rename_i h
    exact tm_bd n m (by omega) hm
set_option maxHeartbeats 1000000 in
theorem picked_any (n m : Int) (w : World) (hn1 : -9223372036854775808 ≤ n) (hn2 : n ≤ 9223372036854775807) (hm : 0 < m) (hm2 : m ≤ 1099511627776) :
    Calls Tryd.prog 10 #[.int .i64 n, .int .i64 m] w fun e w' => e = .returned (.int .i64 (pkd n m)) ∧ w' = w := by
  have hm0 : ¬ m = 0 := by omega
  by_cases h : 0 ≤ n
  · have HP := hid (show pkd n m = n % m by unfold pkd; rw [if_pos h])
    go_enter Tryd.func10, Tryd.ntmps10
    go_wp2
    go_ret
    rw [HP.out]
    exact ⟨rfl, rfl⟩
  · have h' : n < 0 := by omega
    have HP := hid (show pkd n m = -((n + 1).tmod m) by unfold pkd; rw [if_neg h])
    go_enter Tryd.func10, Tryd.ntmps10
    go_wp2
    go_ret
    rw [HP.out]
    exact ⟨rfl, rfl⟩
theorem res1c {P : Program} {fn : Func} {p : Tmp} {ty : TypeId} (h : fn.results = #[.cell p ty]) (tmps : Array Value) (w : World) (g : Nat) (cs : List Value) (d : TypeDesc)
    (hp : tmps.getD p undef = .pointer (some ⟨g, 0, none⟩)) (hc : w.rangeAt g 0 cs) (hu : P.underlying ty = some d) (hd : d.isRow = true) (hi : (P.info? ty).map (·.size) = some cs.length) :
    (results fn tmps).run P w = .ok (.agg cs.toArray) w := by
  have hp' : tmps[p]?.getD undef = .pointer (some ⟨g, 0, none⟩) := by simpa using hp
  simp [results, h, hp', asAddr, run_loadVar_mid w g 0 ty cs d hc hu hd hi]
theorem range3o {w : World} {m : Nat} {x y z a b c : Value} (h0 : w.cell? ⟨m, 0, none⟩ = some x) (h1 : w.cell? ⟨m, 1, none⟩ = some y) (h2 : w.cell? ⟨m, 2, none⟩ = some z) :
    (((w.setCell ⟨m, 0, none⟩ a).setCell ⟨m, 1, none⟩ b).setCell ⟨m, 2, none⟩ c).rangeAt m 0 [a, b, c] := by
  intro j v hv
  match j, hv with
  | 0, hv => simp at hv; subst hv; simp [go_sem, h0, h1, h2]
  | 1, hv => simp at hv; subst hv; simp [go_sem, h0, h1, h2]
  | 2, hv => simp at hv; subst hv; simp [go_sem, h0, h1, h2]
theorem size3o : (Tryd.prog.info? 23).map (·.size) = some 3 := by kernel_rfl
def opLo0 (low : Int) : Int := if pkd low 3 = 0 then pkd low 6 else 0
def opHi (low high : Int) : Int := if 0 < pkd high 3 then opLo0 low + pkd high 9 else -1
def opRl (r : Int) : Int := 1 + pkd r 13
def opLo (r low : Int) : Int := if opRl r = 3 ∨ opRl r = 4 ∨ opRl r = 13 then 0 else opLo0 low
set_option maxHeartbeats 16000000 in
theorem option_any (r low high : Int) (w : World) (r1 : -9223372036854775808 ≤ r) (r2 : r ≤ 9223372036854775807) (l1 : -9223372036854775808 ≤ low) (l2 : low ≤ 9223372036854775807) (h1 : -9223372036854775808 ≤ high) (h2 : high ≤ 9223372036854775807) :
    Calls Tryd.prog 5 #[.int .i64 r, .int .i64 low, .int .i64 high] w fun e w' => e = .returned (.agg #[.int .i64 (opRl r), .int .i64 (opLo r low), .int .i64 (opHi low high)]) ∧ Below w.heap.size w w' := by
  have P1 := hid (fun W => picked_any r 13 W r1 r2 (by decide) (by decide))
  have P2 := hid (fun W => picked_any low 3 W l1 l2 (by decide) (by decide))
  have P3 := hid (fun W => picked_any low 6 W l1 l2 (by decide) (by decide))
  have P4 := hid (fun W => picked_any high 3 W h1 h2 (by decide) (by decide))
  have P5 := hid (fun W => picked_any high 9 W h1 h2 (by decide) (by decide))
  have b1 := pkd_in r (m := 13) (by decide)
  have b2 := pkd_in low (m := 3) (by decide)
  have b3 := pkd_in low (m := 6) (by decide)
  have b4 := pkd_in high (m := 3) (by decide)
  have b5 := pkd_in high (m := 9) (by decide)
  unfold opLo opHi opLo0 opRl
  generalize pkd r 13 = x1 at *
  generalize pkd low 3 = x2 at *
  generalize pkd low 6 = x3 at *
  generalize pkd high 3 = x4 at *
  generalize pkd high 9 = x5 at *
  have w1 : RowKit.wrap64 (1 + x1) = 1 + x1 := by unfold RowKit.wrap64; omega
  have w2 : RowKit.wrap64 (x3 + x5) = x3 + x5 := by unfold RowKit.wrap64; omega
  have w4 : RowKit.wrap64 x5 = x5 := by unfold RowKit.wrap64; omega
  have w3 : RowKit.wrap64 (0 + x5) = 0 + x5 := by unfold RowKit.wrap64; omega
  by_cases q2 : x2 = 0
  · by_cases q4 : 0 < x4
    · rcases (by omega : 1 + x1 = 3 ∨ 1 + x1 = 4 ∨ 1 + x1 = 13 ∨ (1 + x1 ≠ 3 ∧ 1 + x1 ≠ 4 ∧ 1 + x1 ≠ 13)) with q3 | q3 | q3 | q3
      · have HV : Hid ((if x2 = 0 then x3 else 0) = x3) := by show _ = _; rw [if_pos q2]
        have HH : Hid ((if 0 < x4 then (if x2 = 0 then x3 else 0) + x5 else -1) = x3 + x5) := by show _ = _; rw [if_pos q4, HV.out]
        have HL : Hid ((if 1 + x1 = 3 ∨ 1 + x1 = 4 ∨ 1 + x1 = 13 then 0 else (if x2 = 0 then x3 else 0)) = 0) := by show _ = _; rw [if_pos (by omega)]
        rw [HL.out, HH.out]
        have d2 : (x2 == 0) = true := by simpa using q2
        have d4 : decide (0 < x4) = true := by simp; omega
        have e3 : ((1 + x1 : Int) == 3) = true := by simp; omega
        have e4 : ((1 + x1 : Int) == 4) = false := by simp; omega
        have e13 : ((1 + x1 : Int) == 13) = false := by simp; omega
        clear q2 q3 b1 b2 b3 b4 b5
        go_enter Tryd.func5, Tryd.ntmps5
        go_wp2_with fail
        refine (P1.out _).mono ?_
        rintro e _ ⟨rfl, rfl⟩
        go_wp2_with fail
        refine (P2.out _).mono ?_
        rintro e _ ⟨rfl, rfl⟩
        go_wp2_with fail
        refine (P3.out _).mono ?_
        rintro e _ ⟨rfl, rfl⟩
        go_wp2_with fail
        refine (P4.out _).mono ?_
        rintro e _ ⟨rfl, rfl⟩
        go_wp2_with fail
        go_region_with ((go_at_call 10; refine (P5.out _).mono ?_; rintro e _ ⟨rfl, rfl⟩))
        all_goals
          go_wp2_with fail
          refine bodyPost_ret (res1c (g := w.heap.size) (cs := [.int .i64 (1 + x1), .int .i64 (0), .int .i64 (x3 + x5)]) rfl _ _ _ (by rfl) ?_ Tryd.underlying23 rfl size3o) rfl ?_
          · intro j v hv
            match j, hv with
            | 0, hv => simp at hv; subst hv; simp [go_sem]
            | 1, hv => simp at hv; subst hv; simp [go_sem]
            | 2, hv => simp at hv; subst hv; simp [go_sem]
          · exact ⟨rfl, by go_grown⟩
      · have HV : Hid ((if x2 = 0 then x3 else 0) = x3) := by show _ = _; rw [if_pos q2]
        have HH : Hid ((if 0 < x4 then (if x2 = 0 then x3 else 0) + x5 else -1) = x3 + x5) := by show _ = _; rw [if_pos q4, HV.out]
        have HL : Hid ((if 1 + x1 = 3 ∨ 1 + x1 = 4 ∨ 1 + x1 = 13 then 0 else (if x2 = 0 then x3 else 0)) = 0) := by show _ = _; rw [if_pos (by omega)]
        rw [HL.out, HH.out]
        have d2 : (x2 == 0) = true := by simpa using q2
        have d4 : decide (0 < x4) = true := by simp; omega
        have e3 : ((1 + x1 : Int) == 3) = false := by simp; omega
        have e4 : ((1 + x1 : Int) == 4) = true := by simp; omega
        have e13 : ((1 + x1 : Int) == 13) = false := by simp; omega
        clear q2 q3 b1 b2 b3 b4 b5
        go_enter Tryd.func5, Tryd.ntmps5
        go_wp2_with fail
        refine (P1.out _).mono ?_
        rintro e _ ⟨rfl, rfl⟩
        go_wp2_with fail
        refine (P2.out _).mono ?_
        rintro e _ ⟨rfl, rfl⟩
        go_wp2_with fail
        refine (P3.out _).mono ?_
        rintro e _ ⟨rfl, rfl⟩
        go_wp2_with fail
        refine (P4.out _).mono ?_
        rintro e _ ⟨rfl, rfl⟩
        go_wp2_with fail
        go_region_with ((go_at_call 10; refine (P5.out _).mono ?_; rintro e _ ⟨rfl, rfl⟩))
        all_goals
          go_wp2_with fail
          refine bodyPost_ret (res1c (g := w.heap.size) (cs := [.int .i64 (1 + x1), .int .i64 (0), .int .i64 (x3 + x5)]) rfl _ _ _ (by rfl) ?_ Tryd.underlying23 rfl size3o) rfl ?_
          · intro j v hv
            match j, hv with
            | 0, hv => simp at hv; subst hv; simp [go_sem]
            | 1, hv => simp at hv; subst hv; simp [go_sem]
            | 2, hv => simp at hv; subst hv; simp [go_sem]
          · exact ⟨rfl, by go_grown⟩
      · have HV : Hid ((if x2 = 0 then x3 else 0) = x3) := by show _ = _; rw [if_pos q2]
        have HH : Hid ((if 0 < x4 then (if x2 = 0 then x3 else 0) + x5 else -1) = x3 + x5) := by show _ = _; rw [if_pos q4, HV.out]
        have HL : Hid ((if 1 + x1 = 3 ∨ 1 + x1 = 4 ∨ 1 + x1 = 13 then 0 else (if x2 = 0 then x3 else 0)) = 0) := by show _ = _; rw [if_pos (by omega)]
        rw [HL.out, HH.out]
        have d2 : (x2 == 0) = true := by simpa using q2
        have d4 : decide (0 < x4) = true := by simp; omega
        have e3 : ((1 + x1 : Int) == 3) = false := by simp; omega
        have e4 : ((1 + x1 : Int) == 4) = false := by simp; omega
        have e13 : ((1 + x1 : Int) == 13) = true := by simp; omega
        clear q2 q3 b1 b2 b3 b4 b5
        go_enter Tryd.func5, Tryd.ntmps5
        go_wp2_with fail
        refine (P1.out _).mono ?_
        rintro e _ ⟨rfl, rfl⟩
        go_wp2_with fail
        refine (P2.out _).mono ?_
        rintro e _ ⟨rfl, rfl⟩
        go_wp2_with fail
        refine (P3.out _).mono ?_
        rintro e _ ⟨rfl, rfl⟩
        go_wp2_with fail
        refine (P4.out _).mono ?_
        rintro e _ ⟨rfl, rfl⟩
        go_wp2_with fail
        go_region_with ((go_at_call 10; refine (P5.out _).mono ?_; rintro e _ ⟨rfl, rfl⟩))
        all_goals
          go_wp2_with fail
          refine bodyPost_ret (res1c (g := w.heap.size) (cs := [.int .i64 (1 + x1), .int .i64 (0), .int .i64 (x3 + x5)]) rfl _ _ _ (by rfl) ?_ Tryd.underlying23 rfl size3o) rfl ?_
          · intro j v hv
            match j, hv with
            | 0, hv => simp at hv; subst hv; simp [go_sem]
            | 1, hv => simp at hv; subst hv; simp [go_sem]
            | 2, hv => simp at hv; subst hv; simp [go_sem]
          · exact ⟨rfl, by go_grown⟩
      · have HV : Hid ((if x2 = 0 then x3 else 0) = x3) := by show _ = _; rw [if_pos q2]
        have HH : Hid ((if 0 < x4 then (if x2 = 0 then x3 else 0) + x5 else -1) = x3 + x5) := by show _ = _; rw [if_pos q4, HV.out]
        have HL : Hid ((if 1 + x1 = 3 ∨ 1 + x1 = 4 ∨ 1 + x1 = 13 then 0 else (if x2 = 0 then x3 else 0)) = x3) := by show _ = _; rw [if_neg (by omega), HV.out]
        rw [HL.out, HH.out]
        have d2 : (x2 == 0) = true := by simpa using q2
        have d4 : decide (0 < x4) = true := by simp; omega
        have e3 : ((1 + x1 : Int) == 3) = false := by simp; omega
        have e4 : ((1 + x1 : Int) == 4) = false := by simp; omega
        have e13 : ((1 + x1 : Int) == 13) = false := by simp; omega
        clear q2 q3 b1 b2 b3 b4 b5
        go_enter Tryd.func5, Tryd.ntmps5
        go_wp2_with fail
        refine (P1.out _).mono ?_
        rintro e _ ⟨rfl, rfl⟩
        go_wp2_with fail
        refine (P2.out _).mono ?_
        rintro e _ ⟨rfl, rfl⟩
        go_wp2_with fail
        refine (P3.out _).mono ?_
        rintro e _ ⟨rfl, rfl⟩
        go_wp2_with fail
        refine (P4.out _).mono ?_
        rintro e _ ⟨rfl, rfl⟩
        go_wp2_with fail
        go_region_with ((go_at_call 10; refine (P5.out _).mono ?_; rintro e _ ⟨rfl, rfl⟩))
        all_goals
          go_wp2_with fail
          refine bodyPost_ret (res1c (g := w.heap.size) (cs := [.int .i64 (1 + x1), .int .i64 (x3), .int .i64 (x3 + x5)]) rfl _ _ _ (by rfl) ?_ Tryd.underlying23 rfl size3o) rfl ?_
          · intro j v hv
            match j, hv with
            | 0, hv => simp at hv; subst hv; simp [go_sem]
            | 1, hv => simp at hv; subst hv; simp [go_sem]
            | 2, hv => simp at hv; subst hv; simp [go_sem]
          · exact ⟨rfl, by go_grown⟩
    · rcases (by omega : 1 + x1 = 3 ∨ 1 + x1 = 4 ∨ 1 + x1 = 13 ∨ (1 + x1 ≠ 3 ∧ 1 + x1 ≠ 4 ∧ 1 + x1 ≠ 13)) with q3 | q3 | q3 | q3
      · have HV : Hid ((if x2 = 0 then x3 else 0) = x3) := by show _ = _; rw [if_pos q2]
        have HH : Hid ((if 0 < x4 then (if x2 = 0 then x3 else 0) + x5 else -1) = -1) := by show _ = _; rw [if_neg q4]
        have HL : Hid ((if 1 + x1 = 3 ∨ 1 + x1 = 4 ∨ 1 + x1 = 13 then 0 else (if x2 = 0 then x3 else 0)) = 0) := by show _ = _; rw [if_pos (by omega)]
        rw [HL.out, HH.out]
        have d2 : (x2 == 0) = true := by simpa using q2
        have d4 : decide (0 < x4) = false := by simp; omega
        have e3 : ((1 + x1 : Int) == 3) = true := by simp; omega
        have e4 : ((1 + x1 : Int) == 4) = false := by simp; omega
        have e13 : ((1 + x1 : Int) == 13) = false := by simp; omega
        clear q2 q3 b1 b2 b3 b4 b5
        go_enter Tryd.func5, Tryd.ntmps5
        go_wp2_with fail
        refine (P1.out _).mono ?_
        rintro e _ ⟨rfl, rfl⟩
        go_wp2_with fail
        refine (P2.out _).mono ?_
        rintro e _ ⟨rfl, rfl⟩
        go_wp2_with fail
        refine (P3.out _).mono ?_
        rintro e _ ⟨rfl, rfl⟩
        go_wp2_with fail
        refine (P4.out _).mono ?_
        rintro e _ ⟨rfl, rfl⟩
        go_wp2_with fail
        refine bodyPost_ret (res1c (g := w.heap.size) (cs := [.int .i64 (1 + x1), .int .i64 (0), .int .i64 (-1)]) rfl _ _ _ (by rfl) ?_ Tryd.underlying23 rfl size3o) rfl ?_
        · intro j v hv
          match j, hv with
          | 0, hv => simp at hv; subst hv; simp [go_sem]
          | 1, hv => simp at hv; subst hv; simp [go_sem]
          | 2, hv => simp at hv; subst hv; simp [go_sem]
        · exact ⟨rfl, by go_grown⟩
      · have HV : Hid ((if x2 = 0 then x3 else 0) = x3) := by show _ = _; rw [if_pos q2]
        have HH : Hid ((if 0 < x4 then (if x2 = 0 then x3 else 0) + x5 else -1) = -1) := by show _ = _; rw [if_neg q4]
        have HL : Hid ((if 1 + x1 = 3 ∨ 1 + x1 = 4 ∨ 1 + x1 = 13 then 0 else (if x2 = 0 then x3 else 0)) = 0) := by show _ = _; rw [if_pos (by omega)]
        rw [HL.out, HH.out]
        have d2 : (x2 == 0) = true := by simpa using q2
        have d4 : decide (0 < x4) = false := by simp; omega
        have e3 : ((1 + x1 : Int) == 3) = false := by simp; omega
        have e4 : ((1 + x1 : Int) == 4) = true := by simp; omega
        have e13 : ((1 + x1 : Int) == 13) = false := by simp; omega
        clear q2 q3 b1 b2 b3 b4 b5
        go_enter Tryd.func5, Tryd.ntmps5
        go_wp2_with fail
        refine (P1.out _).mono ?_
        rintro e _ ⟨rfl, rfl⟩
        go_wp2_with fail
        refine (P2.out _).mono ?_
        rintro e _ ⟨rfl, rfl⟩
        go_wp2_with fail
        refine (P3.out _).mono ?_
        rintro e _ ⟨rfl, rfl⟩
        go_wp2_with fail
        refine (P4.out _).mono ?_
        rintro e _ ⟨rfl, rfl⟩
        go_wp2_with fail
        refine bodyPost_ret (res1c (g := w.heap.size) (cs := [.int .i64 (1 + x1), .int .i64 (0), .int .i64 (-1)]) rfl _ _ _ (by rfl) ?_ Tryd.underlying23 rfl size3o) rfl ?_
        · intro j v hv
          match j, hv with
          | 0, hv => simp at hv; subst hv; simp [go_sem]
          | 1, hv => simp at hv; subst hv; simp [go_sem]
          | 2, hv => simp at hv; subst hv; simp [go_sem]
        · exact ⟨rfl, by go_grown⟩
      · have HV : Hid ((if x2 = 0 then x3 else 0) = x3) := by show _ = _; rw [if_pos q2]
        have HH : Hid ((if 0 < x4 then (if x2 = 0 then x3 else 0) + x5 else -1) = -1) := by show _ = _; rw [if_neg q4]
        have HL : Hid ((if 1 + x1 = 3 ∨ 1 + x1 = 4 ∨ 1 + x1 = 13 then 0 else (if x2 = 0 then x3 else 0)) = 0) := by show _ = _; rw [if_pos (by omega)]
        rw [HL.out, HH.out]
        have d2 : (x2 == 0) = true := by simpa using q2
        have d4 : decide (0 < x4) = false := by simp; omega
        have e3 : ((1 + x1 : Int) == 3) = false := by simp; omega
        have e4 : ((1 + x1 : Int) == 4) = false := by simp; omega
        have e13 : ((1 + x1 : Int) == 13) = true := by simp; omega
        clear q2 q3 b1 b2 b3 b4 b5
        go_enter Tryd.func5, Tryd.ntmps5
        go_wp2_with fail
        refine (P1.out _).mono ?_
        rintro e _ ⟨rfl, rfl⟩
        go_wp2_with fail
        refine (P2.out _).mono ?_
        rintro e _ ⟨rfl, rfl⟩
        go_wp2_with fail
        refine (P3.out _).mono ?_
        rintro e _ ⟨rfl, rfl⟩
        go_wp2_with fail
        refine (P4.out _).mono ?_
        rintro e _ ⟨rfl, rfl⟩
        go_wp2_with fail
        refine bodyPost_ret (res1c (g := w.heap.size) (cs := [.int .i64 (1 + x1), .int .i64 (0), .int .i64 (-1)]) rfl _ _ _ (by rfl) ?_ Tryd.underlying23 rfl size3o) rfl ?_
        · intro j v hv
          match j, hv with
          | 0, hv => simp at hv; subst hv; simp [go_sem]
          | 1, hv => simp at hv; subst hv; simp [go_sem]
          | 2, hv => simp at hv; subst hv; simp [go_sem]
        · exact ⟨rfl, by go_grown⟩
      · have HV : Hid ((if x2 = 0 then x3 else 0) = x3) := by show _ = _; rw [if_pos q2]
        have HH : Hid ((if 0 < x4 then (if x2 = 0 then x3 else 0) + x5 else -1) = -1) := by show _ = _; rw [if_neg q4]
        have HL : Hid ((if 1 + x1 = 3 ∨ 1 + x1 = 4 ∨ 1 + x1 = 13 then 0 else (if x2 = 0 then x3 else 0)) = x3) := by show _ = _; rw [if_neg (by omega), HV.out]
        rw [HL.out, HH.out]
        have d2 : (x2 == 0) = true := by simpa using q2
        have d4 : decide (0 < x4) = false := by simp; omega
        have e3 : ((1 + x1 : Int) == 3) = false := by simp; omega
        have e4 : ((1 + x1 : Int) == 4) = false := by simp; omega
        have e13 : ((1 + x1 : Int) == 13) = false := by simp; omega
        clear q2 q3 b1 b2 b3 b4 b5
        go_enter Tryd.func5, Tryd.ntmps5
        go_wp2_with fail
        refine (P1.out _).mono ?_
        rintro e _ ⟨rfl, rfl⟩
        go_wp2_with fail
        refine (P2.out _).mono ?_
        rintro e _ ⟨rfl, rfl⟩
        go_wp2_with fail
        refine (P3.out _).mono ?_
        rintro e _ ⟨rfl, rfl⟩
        go_wp2_with fail
        refine (P4.out _).mono ?_
        rintro e _ ⟨rfl, rfl⟩
        go_wp2_with fail
        refine bodyPost_ret (res1c (g := w.heap.size) (cs := [.int .i64 (1 + x1), .int .i64 (x3), .int .i64 (-1)]) rfl _ _ _ (by rfl) ?_ Tryd.underlying23 rfl size3o) rfl ?_
        · intro j v hv
          match j, hv with
          | 0, hv => simp at hv; subst hv; simp [go_sem]
          | 1, hv => simp at hv; subst hv; simp [go_sem]
          | 2, hv => simp at hv; subst hv; simp [go_sem]
        · exact ⟨rfl, by go_grown⟩
  · by_cases q4 : 0 < x4
    · rcases (by omega : 1 + x1 = 3 ∨ 1 + x1 = 4 ∨ 1 + x1 = 13 ∨ (1 + x1 ≠ 3 ∧ 1 + x1 ≠ 4 ∧ 1 + x1 ≠ 13)) with q3 | q3 | q3 | q3
      · have HV : Hid ((if x2 = 0 then x3 else 0) = 0) := by show _ = _; rw [if_neg q2]
        have HH : Hid ((if 0 < x4 then (if x2 = 0 then x3 else 0) + x5 else -1) = 0 + x5) := by show _ = _; rw [if_pos q4, HV.out]
        have HL : Hid ((if 1 + x1 = 3 ∨ 1 + x1 = 4 ∨ 1 + x1 = 13 then 0 else (if x2 = 0 then x3 else 0)) = 0) := by show _ = _; rw [if_pos (by omega)]
        rw [HL.out, HH.out]
        have d2 : (x2 == 0) = false := by simpa using q2
        have d4 : decide (0 < x4) = true := by simp; omega
        have e3 : ((1 + x1 : Int) == 3) = true := by simp; omega
        have e4 : ((1 + x1 : Int) == 4) = false := by simp; omega
        have e13 : ((1 + x1 : Int) == 13) = false := by simp; omega
        clear q2 q3 b1 b2 b3 b4 b5
        go_enter Tryd.func5, Tryd.ntmps5
        go_wp2_with fail
        refine (P1.out _).mono ?_
        rintro e _ ⟨rfl, rfl⟩
        go_wp2_with fail
        refine (P2.out _).mono ?_
        rintro e _ ⟨rfl, rfl⟩
        go_wp2_with fail
        refine (P4.out _).mono ?_
        rintro e _ ⟨rfl, rfl⟩
        go_wp2_with fail
        go_region_with ((go_at_call 10; refine (P5.out _).mono ?_; rintro e _ ⟨rfl, rfl⟩))
        all_goals
          go_wp2_with fail
          refine bodyPost_ret (res1c (g := w.heap.size) (cs := [.int .i64 (1 + x1), .int .i64 (0), .int .i64 (0 + x5)]) rfl _ _ _ (by rfl) ?_ Tryd.underlying23 rfl size3o) rfl ?_
          · intro j v hv
            match j, hv with
            | 0, hv => simp at hv; subst hv; simp [go_sem]
            | 1, hv => simp at hv; subst hv; simp [go_sem]
            | 2, hv => simp at hv; subst hv; simp [go_sem]
          · exact ⟨rfl, by go_grown⟩
      · have HV : Hid ((if x2 = 0 then x3 else 0) = 0) := by show _ = _; rw [if_neg q2]
        have HH : Hid ((if 0 < x4 then (if x2 = 0 then x3 else 0) + x5 else -1) = 0 + x5) := by show _ = _; rw [if_pos q4, HV.out]
        have HL : Hid ((if 1 + x1 = 3 ∨ 1 + x1 = 4 ∨ 1 + x1 = 13 then 0 else (if x2 = 0 then x3 else 0)) = 0) := by show _ = _; rw [if_pos (by omega)]
        rw [HL.out, HH.out]
        have d2 : (x2 == 0) = false := by simpa using q2
        have d4 : decide (0 < x4) = true := by simp; omega
        have e3 : ((1 + x1 : Int) == 3) = false := by simp; omega
        have e4 : ((1 + x1 : Int) == 4) = true := by simp; omega
        have e13 : ((1 + x1 : Int) == 13) = false := by simp; omega
        clear q2 q3 b1 b2 b3 b4 b5
        go_enter Tryd.func5, Tryd.ntmps5
        go_wp2_with fail
        refine (P1.out _).mono ?_
        rintro e _ ⟨rfl, rfl⟩
        go_wp2_with fail
        refine (P2.out _).mono ?_
        rintro e _ ⟨rfl, rfl⟩
        go_wp2_with fail
        refine (P4.out _).mono ?_
        rintro e _ ⟨rfl, rfl⟩
        go_wp2_with fail
        go_region_with ((go_at_call 10; refine (P5.out _).mono ?_; rintro e _ ⟨rfl, rfl⟩))
        all_goals
          go_wp2_with fail
          refine bodyPost_ret (res1c (g := w.heap.size) (cs := [.int .i64 (1 + x1), .int .i64 (0), .int .i64 (0 + x5)]) rfl _ _ _ (by rfl) ?_ Tryd.underlying23 rfl size3o) rfl ?_
          · intro j v hv
            match j, hv with
            | 0, hv => simp at hv; subst hv; simp [go_sem]
            | 1, hv => simp at hv; subst hv; simp [go_sem]
            | 2, hv => simp at hv; subst hv; simp [go_sem]
          · exact ⟨rfl, by go_grown⟩
      · have HV : Hid ((if x2 = 0 then x3 else 0) = 0) := by show _ = _; rw [if_neg q2]
        have HH : Hid ((if 0 < x4 then (if x2 = 0 then x3 else 0) + x5 else -1) = 0 + x5) := by show _ = _; rw [if_pos q4, HV.out]
        have HL : Hid ((if 1 + x1 = 3 ∨ 1 + x1 = 4 ∨ 1 + x1 = 13 then 0 else (if x2 = 0 then x3 else 0)) = 0) := by show _ = _; rw [if_pos (by omega)]
        rw [HL.out, HH.out]
        have d2 : (x2 == 0) = false := by simpa using q2
        have d4 : decide (0 < x4) = true := by simp; omega
        have e3 : ((1 + x1 : Int) == 3) = false := by simp; omega
        have e4 : ((1 + x1 : Int) == 4) = false := by simp; omega
        have e13 : ((1 + x1 : Int) == 13) = true := by simp; omega
        clear q2 q3 b1 b2 b3 b4 b5
        go_enter Tryd.func5, Tryd.ntmps5
        go_wp2_with fail
        refine (P1.out _).mono ?_
        rintro e _ ⟨rfl, rfl⟩
        go_wp2_with fail
        refine (P2.out _).mono ?_
        rintro e _ ⟨rfl, rfl⟩
        go_wp2_with fail
        refine (P4.out _).mono ?_
        rintro e _ ⟨rfl, rfl⟩
        go_wp2_with fail
        go_region_with ((go_at_call 10; refine (P5.out _).mono ?_; rintro e _ ⟨rfl, rfl⟩))
        all_goals
          go_wp2_with fail
          refine bodyPost_ret (res1c (g := w.heap.size) (cs := [.int .i64 (1 + x1), .int .i64 (0), .int .i64 (0 + x5)]) rfl _ _ _ (by rfl) ?_ Tryd.underlying23 rfl size3o) rfl ?_
          · intro j v hv
            match j, hv with
            | 0, hv => simp at hv; subst hv; simp [go_sem]
            | 1, hv => simp at hv; subst hv; simp [go_sem]
            | 2, hv => simp at hv; subst hv; simp [go_sem]
          · exact ⟨rfl, by go_grown⟩
      · have HV : Hid ((if x2 = 0 then x3 else 0) = 0) := by show _ = _; rw [if_neg q2]
        have HH : Hid ((if 0 < x4 then (if x2 = 0 then x3 else 0) + x5 else -1) = 0 + x5) := by show _ = _; rw [if_pos q4, HV.out]
        have HL : Hid ((if 1 + x1 = 3 ∨ 1 + x1 = 4 ∨ 1 + x1 = 13 then 0 else (if x2 = 0 then x3 else 0)) = 0) := by show _ = _; rw [if_neg (by omega), HV.out]
        rw [HL.out, HH.out]
        have d2 : (x2 == 0) = false := by simpa using q2
        have d4 : decide (0 < x4) = true := by simp; omega
        have e3 : ((1 + x1 : Int) == 3) = false := by simp; omega
        have e4 : ((1 + x1 : Int) == 4) = false := by simp; omega
        have e13 : ((1 + x1 : Int) == 13) = false := by simp; omega
        clear q2 q3 b1 b2 b3 b4 b5
        go_enter Tryd.func5, Tryd.ntmps5
        go_wp2_with fail
        refine (P1.out _).mono ?_
        rintro e _ ⟨rfl, rfl⟩
        go_wp2_with fail
        refine (P2.out _).mono ?_
        rintro e _ ⟨rfl, rfl⟩
        go_wp2_with fail
        refine (P4.out _).mono ?_
        rintro e _ ⟨rfl, rfl⟩
        go_wp2_with fail
        go_region_with ((go_at_call 10; refine (P5.out _).mono ?_; rintro e _ ⟨rfl, rfl⟩))
        all_goals
          go_wp2_with fail
          refine bodyPost_ret (res1c (g := w.heap.size) (cs := [.int .i64 (1 + x1), .int .i64 (0), .int .i64 (0 + x5)]) rfl _ _ _ (by rfl) ?_ Tryd.underlying23 rfl size3o) rfl ?_
          · intro j v hv
            match j, hv with
            | 0, hv => simp at hv; subst hv; simp [go_sem]
            | 1, hv => simp at hv; subst hv; simp [go_sem]
            | 2, hv => simp at hv; subst hv; simp [go_sem]
          · exact ⟨rfl, by go_grown⟩
    · rcases (by omega : 1 + x1 = 3 ∨ 1 + x1 = 4 ∨ 1 + x1 = 13 ∨ (1 + x1 ≠ 3 ∧ 1 + x1 ≠ 4 ∧ 1 + x1 ≠ 13)) with q3 | q3 | q3 | q3
      · have HV : Hid ((if x2 = 0 then x3 else 0) = 0) := by show _ = _; rw [if_neg q2]
        have HH : Hid ((if 0 < x4 then (if x2 = 0 then x3 else 0) + x5 else -1) = -1) := by show _ = _; rw [if_neg q4]
        have HL : Hid ((if 1 + x1 = 3 ∨ 1 + x1 = 4 ∨ 1 + x1 = 13 then 0 else (if x2 = 0 then x3 else 0)) = 0) := by show _ = _; rw [if_pos (by omega)]
        rw [HL.out, HH.out]
        have d2 : (x2 == 0) = false := by simpa using q2
        have d4 : decide (0 < x4) = false := by simp; omega
        have e3 : ((1 + x1 : Int) == 3) = true := by simp; omega
        have e4 : ((1 + x1 : Int) == 4) = false := by simp; omega
        have e13 : ((1 + x1 : Int) == 13) = false := by simp; omega
        clear q2 q3 b1 b2 b3 b4 b5
        go_enter Tryd.func5, Tryd.ntmps5
        go_wp2_with fail
        refine (P1.out _).mono ?_
        rintro e _ ⟨rfl, rfl⟩
        go_wp2_with fail
        refine (P2.out _).mono ?_
        rintro e _ ⟨rfl, rfl⟩
        go_wp2_with fail
        refine (P4.out _).mono ?_
        rintro e _ ⟨rfl, rfl⟩
        go_wp2_with fail
        refine bodyPost_ret (res1c (g := w.heap.size) (cs := [.int .i64 (1 + x1), .int .i64 (0), .int .i64 (-1)]) rfl _ _ _ (by rfl) ?_ Tryd.underlying23 rfl size3o) rfl ?_
        · intro j v hv
          match j, hv with
          | 0, hv => simp at hv; subst hv; simp [go_sem]
          | 1, hv => simp at hv; subst hv; simp [go_sem]
          | 2, hv => simp at hv; subst hv; simp [go_sem]
        · exact ⟨rfl, by go_grown⟩
      · have HV : Hid ((if x2 = 0 then x3 else 0) = 0) := by show _ = _; rw [if_neg q2]
        have HH : Hid ((if 0 < x4 then (if x2 = 0 then x3 else 0) + x5 else -1) = -1) := by show _ = _; rw [if_neg q4]
        have HL : Hid ((if 1 + x1 = 3 ∨ 1 + x1 = 4 ∨ 1 + x1 = 13 then 0 else (if x2 = 0 then x3 else 0)) = 0) := by show _ = _; rw [if_pos (by omega)]
        rw [HL.out, HH.out]
        have d2 : (x2 == 0) = false := by simpa using q2
        have d4 : decide (0 < x4) = false := by simp; omega
        have e3 : ((1 + x1 : Int) == 3) = false := by simp; omega
        have e4 : ((1 + x1 : Int) == 4) = true := by simp; omega
        have e13 : ((1 + x1 : Int) == 13) = false := by simp; omega
        clear q2 q3 b1 b2 b3 b4 b5
        go_enter Tryd.func5, Tryd.ntmps5
        go_wp2_with fail
        refine (P1.out _).mono ?_
        rintro e _ ⟨rfl, rfl⟩
        go_wp2_with fail
        refine (P2.out _).mono ?_
        rintro e _ ⟨rfl, rfl⟩
        go_wp2_with fail
        refine (P4.out _).mono ?_
        rintro e _ ⟨rfl, rfl⟩
        go_wp2_with fail
        refine bodyPost_ret (res1c (g := w.heap.size) (cs := [.int .i64 (1 + x1), .int .i64 (0), .int .i64 (-1)]) rfl _ _ _ (by rfl) ?_ Tryd.underlying23 rfl size3o) rfl ?_
        · intro j v hv
          match j, hv with
          | 0, hv => simp at hv; subst hv; simp [go_sem]
          | 1, hv => simp at hv; subst hv; simp [go_sem]
          | 2, hv => simp at hv; subst hv; simp [go_sem]
        · exact ⟨rfl, by go_grown⟩
      · have HV : Hid ((if x2 = 0 then x3 else 0) = 0) := by show _ = _; rw [if_neg q2]
        have HH : Hid ((if 0 < x4 then (if x2 = 0 then x3 else 0) + x5 else -1) = -1) := by show _ = _; rw [if_neg q4]
        have HL : Hid ((if 1 + x1 = 3 ∨ 1 + x1 = 4 ∨ 1 + x1 = 13 then 0 else (if x2 = 0 then x3 else 0)) = 0) := by show _ = _; rw [if_pos (by omega)]
        rw [HL.out, HH.out]
        have d2 : (x2 == 0) = false := by simpa using q2
        have d4 : decide (0 < x4) = false := by simp; omega
        have e3 : ((1 + x1 : Int) == 3) = false := by simp; omega
        have e4 : ((1 + x1 : Int) == 4) = false := by simp; omega
        have e13 : ((1 + x1 : Int) == 13) = true := by simp; omega
        clear q2 q3 b1 b2 b3 b4 b5
        go_enter Tryd.func5, Tryd.ntmps5
        go_wp2_with fail
        refine (P1.out _).mono ?_
        rintro e _ ⟨rfl, rfl⟩
        go_wp2_with fail
        refine (P2.out _).mono ?_
        rintro e _ ⟨rfl, rfl⟩
        go_wp2_with fail
        refine (P4.out _).mono ?_
        rintro e _ ⟨rfl, rfl⟩
        go_wp2_with fail
        refine bodyPost_ret (res1c (g := w.heap.size) (cs := [.int .i64 (1 + x1), .int .i64 (0), .int .i64 (-1)]) rfl _ _ _ (by rfl) ?_ Tryd.underlying23 rfl size3o) rfl ?_
        · intro j v hv
          match j, hv with
          | 0, hv => simp at hv; subst hv; simp [go_sem]
          | 1, hv => simp at hv; subst hv; simp [go_sem]
          | 2, hv => simp at hv; subst hv; simp [go_sem]
        · exact ⟨rfl, by go_grown⟩
      · have HV : Hid ((if x2 = 0 then x3 else 0) = 0) := by show _ = _; rw [if_neg q2]
        have HH : Hid ((if 0 < x4 then (if x2 = 0 then x3 else 0) + x5 else -1) = -1) := by show _ = _; rw [if_neg q4]
        have HL : Hid ((if 1 + x1 = 3 ∨ 1 + x1 = 4 ∨ 1 + x1 = 13 then 0 else (if x2 = 0 then x3 else 0)) = 0) := by show _ = _; rw [if_neg (by omega), HV.out]
        rw [HL.out, HH.out]
        have d2 : (x2 == 0) = false := by simpa using q2
        have d4 : decide (0 < x4) = false := by simp; omega
        have e3 : ((1 + x1 : Int) == 3) = false := by simp; omega
        have e4 : ((1 + x1 : Int) == 4) = false := by simp; omega
        have e13 : ((1 + x1 : Int) == 13) = false := by simp; omega
        clear q2 q3 b1 b2 b3 b4 b5
        go_enter Tryd.func5, Tryd.ntmps5
        go_wp2_with fail
        refine (P1.out _).mono ?_
        rintro e _ ⟨rfl, rfl⟩
        go_wp2_with fail
        refine (P2.out _).mono ?_
        rintro e _ ⟨rfl, rfl⟩
        go_wp2_with fail
        refine (P4.out _).mono ?_
        rintro e _ ⟨rfl, rfl⟩
        go_wp2_with fail
        refine bodyPost_ret (res1c (g := w.heap.size) (cs := [.int .i64 (1 + x1), .int .i64 (0), .int .i64 (-1)]) rfl _ _ _ (by rfl) ?_ Tryd.underlying23 rfl size3o) rfl ?_
        · intro j v hv
          match j, hv with
          | 0, hv => simp at hv; subst hv; simp [go_sem]
          | 1, hv => simp at hv; subst hv; simp [go_sem]
          | 2, hv => simp at hv; subst hv; simp [go_sem]
        · exact ⟨rfl, by go_grown⟩
end Go.Proofs.YtgikaheojcpmpabDoor
