/-
  A type, by the reference.
-/
import Derived.Test.YthndlfdbmljkhaaGreatDoorCi
import Derived.Test.YthndlfdbmljkhaaGreatDoorCe
namespace Go.Proofs.YthndlfdbmljkhaaGreatDoor.Chk
open Go.ChangeShapes Go.WideShapes Go.ChangeAt Go.RowKit Go.Maps
set_option linter.unusedVariables false
set_option linter.unusedSimpArgs false
set_option maxRecDepth 20000
/-- What is wrong with a field. -/
def fdk (f : Fd) : Int := if nchk f.n ≠ 0 then nchk f.n else if 1 ≤ f.k ∧ f.k ≤ 2 then 0 else 3
/-- Fields, one by one, behind some that are done. -/
def tfs (done : List Fd) : List Fd → Int
  | [] => 0
  | f :: r => if fdk f ≠ 0 then fdk f else if done.any (fun d => seq d.n f.n) = true then 7 else tfs (done ++ [f]) r
/-- What is wrong with a type. -/
def tyk (n : ByteArray) (fs : List Fd) : Int := if nchk n ≠ 0 then nchk n else if 4 < fs.length then 1 else tfs [] fs
theorem nf_any (s : ByteArray) (r : Int) (h : nchk s = r) (W : World) : Calls Tryz.prog 70 #[.string s] W fun e w' => e = .returned (.int .i64 r) ∧ w' = W := by rw [← h]; exact nfault_any s W
set_option maxHeartbeats 16000000 in
theorem typeFault_any (tn : ByteArray) (fs : List Fd) (v : Value) (w : World) (hF : Rd w (.row 93 2 (fs.map encF)) v) : Calls Tryz.prog 33 #[.agg #[.string tn, v]] w fun e w' => e = .returned (.int .i64 (tyk tn fs)) ∧ Below w.heap.size w w' := by
  obtain ⟨fp, fc, rfl, hmx, hat⟩ := rd_row lenF hF
  obtain ⟨n, hn⟩ : ∃ n, fs.length = n := ⟨_, rfl⟩
  have HN := hid hn
  have HAT : Hid (At encF 2 w fp fs) := hat
  unfold tyk
  rw [hn] at hmx ⊢
  have HB0 : Hid (BlkT w (w.alloc (.cells [.string tn, .slice fp n fc].toArray 72)) [.string tn, .slice fp n fc] 72) := BlkT.start w _ _
  obtain ⟨r, hr⟩ : ∃ r, nchk tn = r := ⟨_, rfl⟩
  rw [hr]
  have HNT : Hid (∀ W, Calls Tryz.prog 70 #[.string tn] W fun e w' => e = .returned (.int .i64 r) ∧ w' = W) := fun W => nf_any tn r hr W
  clear hF hat hn hr
  by_cases h1 : r = 0
  · rw [if_neg (fun c => c h1)]
    subst h1
    by_cases h4 : 4 < n
    · rw [if_pos h4]
      have b4 : (4 : Int) < (n : Int) := by omega
      go_enter Tryz.func33, Tryz.ntmps33
      go_wp2_with (first
        | (go_at_call_of 70 (Value.string tn); refine (HNT.out _).mono ?_; rintro e w' ⟨rfl, rfl⟩))
      go_loopw [3, 4, 5, 6] (fun e i _ _ wr => e = .int .i64 1 ∧ i = .int .i64 0 ∧ BlkT w wr [.string tn, .slice fp n fc] 72) (fun _ _ _ _ _ => 0)
      case atStart => exact ⟨rfl, rfl, HB0.out⟩
      case round =>
        obtain ⟨rfl, rfl, hTr⟩ := hrel
        have HT := hid hTr
        have a1 : wr.cell? ⟨w.heap.size, 1, none⟩ = some (.slice fp n fc) := hTr.c 1
        clear hTr HB0
        by_cases h0 : (0 : Int) < (n : Int)
        · go_wp2_with fail
          go_ret
          exact ⟨rfl, HT.out.bel⟩
        · exfalso
          omega
    · rw [if_neg h4]
      have b4 : ¬ (4 : Int) < (n : Int) := by omega
      obtain ⟨R, hR⟩ : ∃ R, tfs [] fs = R := ⟨_, rfl⟩
      rw [hR]
      have HR := hid hR
      clear hR
      go_enter Tryz.func33, Tryz.ntmps33
      go_wp2_with (first
        | (go_at_call_of 70 (Value.string tn); refine (HNT.out _).mono ?_; rintro e w' ⟨rfl, rfl⟩))
      go_loopw [3, 4, 5, 6] (fun e i _ _ wr => ∃ (k : Nat) (e1 : Int), k ≤ n ∧ i = .int .i64 (k : Nat) ∧ e = .int .i64 e1 ∧ ((e1 = 0 ∧ tfs (fs.take k) (fs.drop k) = R) ∨ (e1 ≠ 0 ∧ e1 = R)) ∧ BlkT w wr [.string tn, .slice fp n fc] 72) (fun _ i _ _ _ => n + 1 - (intOf i).toNat)
      case atStart => exact ⟨0, 0, by omega, rfl, rfl, .inl ⟨rfl, HR.out⟩, HB0.out⟩
      case round =>
        obtain ⟨k, e1, hk, rfl, rfl, hc, hTr⟩ := hrel
        have HT : Hid (BlkT w wr [.string tn, .slice fp n fc] 72) := hTr
        have a1 : wr.cell? ⟨w.heap.size, 1, none⟩ = some (.slice fp n fc) := hTr.c 1
        clear HB0
        rcases hc with ⟨rfl, hev⟩ | ⟨he, hR⟩
        · by_cases hlt : k < n
          · have hkc : k < fs.length := by have := HN.out; omega
            obtain ⟨g, off, hp, hrd⟩ := HAT.out (by omega)
            have HQ := hid hp
            have HRD := hid hrd
            rw [hp] at a1
            obtain ⟨us, r1, o1⟩ := hrd wr hTr.bel k hkc
            have z1 := rdF o1
            clear o1
            subst z1
            rw [List.drop_eq_getElem_cons hkc, tfs] at hev
            have htk : fs.take (k + 1) = fs.take k ++ [fs[k]] := by rw [List.take_succ_eq_append_getElem hkc]
            obtain ⟨f, hfd⟩ : ∃ f, fs[k] = f := ⟨_, rfl⟩
            rw [hfd] at r1 hev htk
            obtain ⟨fnm, fk⟩ := f
            simp only at r1 hev
            have HTK := hid htk
            have n0 := r1 0 _ rfl
            have n1 := r1 1 _ rfl
            simp only [Nat.add_zero] at n0
            unfold fdk at hev
            simp only at hev
            obtain ⟨rf, hrf⟩ : ∃ rf, nchk fnm = rf := ⟨_, rfl⟩
            rw [hrf] at hev
            have HNF : Hid (∀ W, Calls Tryz.prog 70 #[.string fnm] W fun e w' => e = .returned (.int .i64 rf) ∧ w' = W) := fun W => nf_any fnm rf hrf W
            have HX : Hid (BlkT wr (wr.alloc (.cells [.string fnm, .int .i64 fk].toArray 93)) [.string fnm, .int .i64 fk] 93) := BlkT.start wr _ _
            have i1 : (0 : Int) ≤ (k : Int) := by omega
            have i2 : (k : Int) < (n : Int) := by omega
            clear hrf r1 hfd hrd hTr hkc hp htk
            by_cases h1 : rf = 0
            · rw [if_neg (show ¬ rf ≠ 0 from fun c => c h1)] at hev
              by_cases h2 : 1 ≤ fk ∧ fk ≤ 2
              · rw [if_pos h2, if_neg (by decide)] at hev
                have HEV : Hid ((if (fs.take k).any (fun d => seq d.n fnm) = true then (7 : Int) else tfs (fs.take k ++ [⟨fnm, fk⟩]) (fs.drop (k + 1))) = R) := hev
                have HIN : Hid (∀ W, Calls Tryz.prog 17 #[.int .i64 fk, .int .i64 1, .int .i64 2] W fun e w' => e = .returned (.bool true) ∧ w' = W) := fun W => in_any fk _ _ true (say_true h2) W
                subst h1
                clear hev h2
                go_wp2_with (first
                  | (go_at_call 17; refine (HIN.out _).mono ?_; rintro e w' ⟨rfl, rfl⟩)
                  | (go_at_call 70; refine (HNF.out _).mono ?_; rintro e w' ⟨rfl, rfl⟩))
                obtain ⟨w0, hw0⟩ : ∃ w0, wr = w0 := ⟨_, rfl⟩
                rw [hw0] at HX HT ⊢
                clear a1 n0 n1
                clear hw0
                go_loopw [3, 6] (fun e i wq => ∃ (j : Nat) (e2 : Int), j ≤ k ∧ i = .int .i64 (j : Nat) ∧ e = .int .i64 e2 ∧ ((e2 = 0 ∧ ∀ (q : Nat) (hq : q < fs.length), q < j → seq fs[q].n fnm = false) ∨ (e2 = 7 ∧ (fs.take k).any (fun d => seq d.n fnm) = true)) ∧ BlkT w0 wq [.string fnm, .int .i64 fk] 93) (fun e i _ => (k + 1 - (intOf i).toNat) + (if intOf e = 0 then 1 else 0))
                case atStart => exact ⟨0, 0, by omega, rfl, rfl, .inl ⟨rfl, fun q hq h => by omega⟩, HX.out⟩
                case round =>
                  obtain ⟨j, e2, hj, rfl, rfl, hc, hXr⟩ := hrel
                  have HX2 : Hid (BlkT w0 wr [.string fnm, .int .i64 fk] 93) := hXr
                  have HT2 : Hid (BlkT w wr [.string tn, .slice fp n fc] 72) := HT.out.next hXr.bel
                  have a2 : wr.cell? ⟨w.heap.size, 1, none⟩ = some (.slice fp n fc) := HT2.out.c 1
                  have x0 : wr.cell? ⟨w0.heap.size, 0, none⟩ = some (.string fnm) := hXr.c 0
                  rw [HQ.out] at a2
                  clear hXr
                  rcases hc with ⟨rfl, hno⟩ | ⟨rfl, hany⟩
                  · have HNO := hid hno
                    clear hno
                    by_cases hjk : j < k
                    · have hjc : j < fs.length := by have := HN.out; omega
                      obtain ⟨us, r1, o1⟩ := HRD.out wr HT2.out.bel j hjc
                      have z1 := rdF o1
                      clear o1
                      subst z1
                      have n0 := r1 0 _ rfl
                      simp only [Nat.add_zero] at n0
                      have HNX : seq fs[j].n fnm = false → Hid (∀ (q : Nat) (hq : q < fs.length), q < j + 1 → seq fs[q].n fnm = false) := fun h9 q hq h => by
                        by_cases c : q = j
                        · subst c; exact h9
                        · exact HNO.out q hq (by omega)
                      have HHT : seq fs[j].n fnm = true → Hid ((fs.take k).any (fun d => seq d.n fnm) = true) := fun h9 => List.any_eq_true.2 ⟨fs[j], by rw [List.mem_take_iff_getElem]; exact ⟨j, by omega, rfl⟩, h9⟩
                      obtain ⟨d, hd⟩ : ∃ d, fs[j].n = d := ⟨_, rfl⟩
                      rw [hd] at n0 HNX HHT
                      have i3 : (0 : Int) ≤ (j : Int) := by omega
                      have i4 : (j : Int) < (n : Int) := by omega
                      have i5 : (j : Int) < (k : Int) := by omega
                      cases hq : seq d fnm
                      · have HNY := HNX hq
                        have hq2 : (d.toList == fnm.toList) = false := hq
                        clear HNX HHT hq hd r1 hjc
                        go_wp2_with fail
                        go_quiet (fail)
                        go_wp2_with fail
                        go_roundw
                        case rel => exact ⟨j + 1, 0, by omega, by go_num, rfl, .inl ⟨rfl, HNY.out⟩, HX2.out.next (below_drawn (Below.refl _ _) _)⟩
                        case measure => simp [intOf]; omega
                      · have HNY := HHT hq
                        have hq2 : (d.toList == fnm.toList) = true := hq
                        clear HNX HHT hq hd r1 hjc
                        go_wp2_with fail
                        go_quiet (fail)
                        go_wp2_with fail
                        go_roundw
                        case rel => exact ⟨j + 1, 7, by omega, by go_num, rfl, .inr ⟨rfl, HNY.out⟩, HX2.out.next (below_drawn (Below.refl _ _) _)⟩
                        case measure => simp [intOf]; omega
                    · obtain rfl : j = k := by omega
                      have HR0 : Hid (tfs (fs.take (j + 1)) (fs.drop (j + 1)) = R) := by
                        have h := HEV.out
                        have hn9 : (fs.take j).any (fun d => seq d.n fnm) = false := by
                          rw [List.any_eq_false]
                          intro x hx
                          rw [List.mem_take_iff_getElem] at hx
                          obtain ⟨q, hq, rfl⟩ := hx
                          rw [HNO.out q (by omega) (by omega)]
                          decide
                        rw [if_neg (by rw [hn9]; decide)] at h
                        rw [HTK.out]
                        exact h
                      clear HNO a2 x0
                      go_wp2_with fail
                      go_roundw
                      case rel => exact ⟨j + 1, 0, by omega, by go_num, rfl, .inl ⟨rfl, HR0.out⟩, HT2.out⟩
                      case measure => simp [intOf]; omega
                  · have HR0 : Hid (7 = R) := by
                      have h := HEV.out
                      rw [if_pos hany] at h
                      exact h
                    clear hany a2 x0
                    by_cases hjk : (j : Int) < (k : Int)
                    · go_wp2_with fail
                      go_roundw
                      case rel => exact ⟨k + 1, 7, by omega, by go_num, rfl, .inr ⟨by decide, HR0.out⟩, HT2.out⟩
                      case measure => simp [intOf]; omega
                    · go_wp2_with fail
                      go_roundw
                      case rel => exact ⟨k + 1, 7, by omega, by go_num, rfl, .inr ⟨by decide, HR0.out⟩, HT2.out⟩
                      case measure => simp [intOf]; omega
              · rw [if_neg h2, if_pos (by decide)] at hev
                have HR0 : Hid (3 = R) := hev
                have HE0 : Hid ((3 : Int) ≠ 0) := by show (3 : Int) ≠ 0; decide
                have HIN : Hid (∀ W, Calls Tryz.prog 17 #[.int .i64 fk, .int .i64 1, .int .i64 2] W fun e w' => e = .returned (.bool false) ∧ w' = W) := fun W => in_any fk _ _ false (say_false h2) W
                subst h1
                clear hev h2
                go_wp2_with (first
                  | (go_at_call 17; refine (HIN.out _).mono ?_; rintro e w' ⟨rfl, rfl⟩)
                  | (go_at_call 70; refine (HNF.out _).mono ?_; rintro e w' ⟨rfl, rfl⟩))
                go_loopw [3, 6] (fun e i wq => e = .int .i64 3 ∧ i = .int .i64 0 ∧ BlkT wr wq [.string fnm, .int .i64 fk] 93) (fun _ _ _ => 0)
                case atStart => exact ⟨rfl, rfl, HX.out⟩
                case round =>
                  obtain ⟨rfl, rfl, hXr⟩ := hrel
                  have HX2 := hid hXr
                  clear hXr
                  by_cases h0 : (0 : Int) < (k : Int)
                  · go_wp2_with fail
                    go_roundw
                    case rel => exact ⟨k + 1, 3, by omega, by go_num, rfl, .inr ⟨HE0.out, HR0.out⟩, HT.out.next HX2.out.bel⟩
                    case measure => simp [intOf]; omega
                  · go_wp2_with fail
                    go_roundw
                    case rel => exact ⟨k + 1, 3, by omega, by go_num, rfl, .inr ⟨HE0.out, HR0.out⟩, HT.out.next HX2.out.bel⟩
                    case measure => simp [intOf]; omega
            · rw [if_pos h1, if_pos h1] at hev
              have HR0 : Hid (rf = R) := hev
              have HE0 : Hid (rf ≠ 0) := h1
              have b1 : (rf == 0) = false := by simpa using h1
              have b2 : (rf != 0) = true := by simpa using h1
              clear hev
              go_wp2_with (first
                | (go_at_call 70; refine (HNF.out _).mono ?_; rintro e w' ⟨rfl, rfl⟩))
              go_loopw [3, 6] (fun e i wq => e = .int .i64 rf ∧ i = .int .i64 0 ∧ BlkT wr wq [.string fnm, .int .i64 fk] 93) (fun _ _ _ => 0)
              case atStart => exact ⟨rfl, rfl, HX.out⟩
              case round =>
                obtain ⟨rfl, rfl, hXr⟩ := hrel
                have HX2 := hid hXr
                clear hXr
                by_cases h0 : (0 : Int) < (k : Int)
                · go_wp2_with fail
                  go_roundw
                  case rel => exact ⟨k + 1, rf, by omega, by go_num, rfl, .inr ⟨HE0.out, HR0.out⟩, HT.out.next HX2.out.bel⟩
                  case measure => simp [intOf]; omega
                · go_wp2_with fail
                  go_roundw
                  case rel => exact ⟨k + 1, rf, by omega, by go_num, rfl, .inr ⟨HE0.out, HR0.out⟩, HT.out.next HX2.out.bel⟩
                  case measure => simp [intOf]; omega
          · obtain rfl : n = k := by omega
            rw [List.drop_eq_nil_of_le (by have := HN.out; omega), tfs] at hev
            have HR0 := hid hev
            clear hTr hev
            go_wp2_with fail
            go_ret
            exact ⟨ret_int HR0.out, HT.out.bel⟩
        · have HR0 := hid hR
          have b1 : (e1 == 0) = false := by simpa using he
          clear hTr hR
          by_cases h0 : (k : Int) < (n : Int)
          · go_wp2_with fail
            go_ret
            exact ⟨ret_int HR0.out, HT.out.bel⟩
          · go_wp2_with fail
            go_ret
            exact ⟨ret_int HR0.out, HT.out.bel⟩
  · rw [if_pos h1]
    have b1 : (r == 0) = false := by simpa using h1
    have b2 : (r != 0) = true := by simpa using h1
    go_enter Tryz.func33, Tryz.ntmps33
    go_wp2_with (first
      | (go_at_call_of 70 (Value.string tn); refine (HNT.out _).mono ?_; rintro e w' ⟨rfl, rfl⟩))
    go_loopw [3, 4, 5, 6] (fun e i _ _ wr => e = .int .i64 r ∧ i = .int .i64 0 ∧ BlkT w wr [.string tn, .slice fp n fc] 72) (fun _ _ _ _ _ => 0)
    case atStart => exact ⟨rfl, rfl, HB0.out⟩
    case round =>
      obtain ⟨rfl, rfl, hTr⟩ := hrel
      have HT := hid hTr
      have a1 : wr.cell? ⟨w.heap.size, 1, none⟩ = some (.slice fp n fc) := hTr.c 1
      clear hTr HB0
      by_cases h0 : (0 : Int) < (n : Int)
      · go_wp2_with fail
        go_ret
        exact ⟨rfl, HT.out.bel⟩
      · go_wp2_with fail
        go_ret
        exact ⟨rfl, HT.out.bel⟩
end Go.Proofs.YthndlfdbmljkhaaGreatDoor.Chk
