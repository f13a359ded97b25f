/-
  OperationOf, by the document.
-/
import Derived.Test.YtnfjdkaemgcllaaYh
namespace Go.Proofs.Ytnfjdkaemgcllaa
open Go.ChangeShapes Go.WideShapes Go.ChangeAt Go.RowKit Go.Maps
set_option linter.unusedVariables false
set_option linter.unusedSimpArgs false
set_option maxRecDepth 20000
set_option maxHeartbeats 32000000 in
theorem opOf_2 (L : List UInt8) (v : Value) (w : World) (hv : BA w v L) (hk : smV ⟨L, 0⟩ = 2) :
    Calls Try.prog 15 #[v] w fun e w' => ∃ u, e = .returned (.tuple #[opv (dcR L).1 u, .int .i64 (dcR L).2]) ∧ VO w' w.heap.size u (dcR L).1.l ∧ Below w.heap.size w w' := by
  obtain ⟨p, cap, rfl, hcap, hmax, hc⟩ := hv
  by_cases hbig : 20000 < L.length
  · have hbi : (20000 : Int) < (L.length : Int) := by omega
    have HDC : Hid (dcR L = (zop, 1)) := by show (if _ then _ else _) = _; rw [if_pos hbig]
    have R00 := hid (row_new w (.cells #[.int .i64 0, .string ⟨#[]⟩, .int .i64 0, .int .i64 0, (.slice none 0 0), .int .i64 0, .bool false] 26))
    have d0 := row_cell (j := 0) R00.out rfl
    clear hc hcap hmax
    go_enter Try.func15, Try.ntmps15
    go_wp2
    refine ret2O (b := w.heap.size) (o := zop) (u := (.slice none 0 0)) 2 3 Try.results15 (by rfl) R00.out (by rfl) ⟨(.slice none 0 0), ?_, ?_, ?_⟩
    · rw [HDC.out]; rfl
    · rw [HDC.out]; exact VO.nil _ _
    · exact ((Gb.refl w w.heap.size).alloc _).below (by omega) (Nat.le_refl _)
  · have hbi : ¬ (20000 : Int) < (L.length : Int) := by omega
    have HLL : Hid (L.length ≤ 20000) := by show L.length ≤ 20000; omega
    have HNE : Hid (w.heap.size ≠ w.heap.size + 2) := by show _ ≠ _; omega
    have R01 : Hid ((((w.alloc (.cells #[.int .i64 0, .string ⟨#[]⟩, .int .i64 0, .int .i64 0, (.slice none 0 0), .int .i64 0, .bool false] 26)).alloc (.cells #[.slice p L.length cap, .int .i64 0, .int .i64 0] 67)).alloc (.cells #[.int .i64 0, .string ⟨#[]⟩, .int .i64 0, .int .i64 0, (.slice none 0 0), .int .i64 0, .bool false] 26)).heap[w.heap.size]? = some (.cells #[.int .i64 0, .string ⟨#[]⟩, .int .i64 0, .int .i64 0, (.slice none 0 0), .int .i64 0, .bool false] 26 (0, 0))) := (Below.heap_alloc _ _ _ (by simp; omega)).trans ((Below.heap_alloc _ _ _ (by simp)).trans (row_new w _))
    have hs2 : ((w.alloc (.cells #[.int .i64 0, .string ⟨#[]⟩, .int .i64 0, .int .i64 0, (.slice none 0 0), .int .i64 0, .bool false] 26)).alloc (.cells #[.slice p L.length cap, .int .i64 0, .int .i64 0] 67)).heap.size = w.heap.size + 2 := by simp
    have hs1 : (w.alloc (.cells #[.int .i64 0, .string ⟨#[]⟩, .int .i64 0, .int .i64 0, (.slice none 0 0), .int .i64 0, .bool false] 26)).heap.size = w.heap.size + 1 := by simp
    have R11 : Hid ((((w.alloc (.cells #[.int .i64 0, .string ⟨#[]⟩, .int .i64 0, .int .i64 0, (.slice none 0 0), .int .i64 0, .bool false] 26)).alloc (.cells #[.slice p L.length cap, .int .i64 0, .int .i64 0] 67)).alloc (.cells #[.int .i64 0, .string ⟨#[]⟩, .int .i64 0, .int .i64 0, (.slice none 0 0), .int .i64 0, .bool false] 26)).heap[w.heap.size + 2]? = some (.cells #[.int .i64 0, .string ⟨#[]⟩, .int .i64 0, .int .i64 0, (.slice none 0 0), .int .i64 0, .bool false] 26 (0, 0))) := by
      have := row_new ((w.alloc (.cells #[.int .i64 0, .string ⟨#[]⟩, .int .i64 0, .int .i64 0, (.slice none 0 0), .int .i64 0, .bool false] 26)).alloc (.cells #[.slice p L.length cap, .int .i64 0, .int .i64 0] 67)) (.cells #[.int .i64 0, .string ⟨#[]⟩, .int .i64 0, .int .i64 0, (.slice none 0 0), .int .i64 0, .bool false] 26)
      rw [hs2] at this
      exact this
    have SR1 : Hid (SR (((w.alloc (.cells #[.int .i64 0, .string ⟨#[]⟩, .int .i64 0, .int .i64 0, (.slice none 0 0), .int .i64 0, .bool false] 26)).alloc (.cells #[.slice p L.length cap, .int .i64 0, .int .i64 0] 67)).alloc (.cells #[.int .i64 0, .string ⟨#[]⟩, .int .i64 0, .int .i64 0, (.slice none 0 0), .int .i64 0, .bool false] 26)) (w.heap.size + 1) L ⟨L, 0⟩) := by
      have hb : Below w.heap.size w (((w.alloc (.cells #[.int .i64 0, .string ⟨#[]⟩, .int .i64 0, .int .i64 0, (.slice none 0 0), .int .i64 0, .bool false] 26)).alloc (.cells #[.slice p L.length cap, .int .i64 0, .int .i64 0] 67)).alloc (.cells #[.int .i64 0, .string ⟨#[]⟩, .int .i64 0, .int .i64 0, (.slice none 0 0), .int .i64 0, .bool false] 26)) := (((Below.refl _ w).alloc (Nat.le_refl _) _).alloc (by simp) _).alloc (by simp; omega) _
      have hrow : (((w.alloc (.cells #[.int .i64 0, .string ⟨#[]⟩, .int .i64 0, .int .i64 0, (.slice none 0 0), .int .i64 0, .bool false] 26)).alloc (.cells #[.slice p L.length cap, .int .i64 0, .int .i64 0] 67)).alloc (.cells #[.int .i64 0, .string ⟨#[]⟩, .int .i64 0, .int .i64 0, (.slice none 0 0), .int .i64 0, .bool false] 26)).heap[w.heap.size + 1]? = some (.cells #[.slice p L.length cap, .int .i64 (0 : Nat), .int .i64 0] 67 (0, 0)) := by
        refine (Below.heap_alloc _ _ _ (by rw [hs2]; omega)).trans ?_
        have := row_new (w.alloc (.cells #[.int .i64 0, .string ⟨#[]⟩, .int .i64 0, .int .i64 0, (.slice none 0 0), .int .i64 0, .bool false] 26)) (.cells #[.slice p L.length cap, .int .i64 0, .int .i64 0] 67)
        rw [hs1] at this
        exact this
      refine ⟨p, cap, 0, hrow, Nat.zero_le _, rfl, hcap, hmax, fun c0 => ?_⟩
      obtain ⟨g, off, hp, hx⟩ := hc c0
      refine ⟨g, off, hp, by have := (hx 0 c0).1; omega, fun j hj => ?_⟩
      exact (hb.cell (p := ⟨g, off + j, none⟩) (hx j hj).1).trans (hx j hj).2
    have HG1 : Hid (Gb w (w.heap.size + 1) (((w.alloc (.cells #[.int .i64 0, .string ⟨#[]⟩, .int .i64 0, .int .i64 0, (.slice none 0 0), .int .i64 0, .bool false] 26)).alloc (.cells #[.slice p L.length cap, .int .i64 0, .int .i64 0] 67)).alloc (.cells #[.int .i64 0, .string ⟨#[]⟩, .int .i64 0, .int .i64 0, (.slice none 0 0), .int .i64 0, .bool false] 26))) := (((Gb.refl w _).alloc _).alloc _).alloc _
    clear hc hcap hmax hbig hs1 hs2
    go_enter Try.func15, Try.ntmps15
    go_wp2_with fail
    refine (oneF_any (w.heap.size + 1) L ⟨L, 0⟩ _ SR1.out rfl HLL.out).mono ?_
    rintro ex w2 ⟨n2, s2, rfl, hn2, hrx, hag2, hval2, hgx⟩
    have R02 : Hid (w2.heap[w.heap.size]? = some (.cells #[.int .i64 0, .string ⟨#[]⟩, .int .i64 0, .int .i64 0, (.slice none 0 0), .int .i64 0, .bool false] 26 (0, 0))) := (hgx.block w.heap.size (row_lt R01.out) (by simp)).trans R01.out
    have R12 : Hid (w2.heap[w.heap.size + 2]? = some (.cells #[.int .i64 0, .string ⟨#[]⟩, .int .i64 0, .int .i64 0, (.slice none 0 0), .int .i64 0, .bool false] 26 (0, 0))) := (hgx.block (w.heap.size + 2) (row_lt R11.out) (by simp)).trans R11.out
    have SR2 := hid hrx
    have HG2 := hid (HG1.out.trans hgx)
    clear hrx hgx
    obtain ⟨pR, capR, atR, hR1, hR2, hR3, hR4, hR5, hR6⟩ := SR2.out
    have d0 := row_cell (j := 0) R02.out rfl
    have d1 := row_cell (j := 1) R02.out rfl
    have d2 := row_cell (j := 2) R02.out rfl
    have d3 := row_cell (j := 3) R02.out rfl
    have d4 := row_cell (j := 4) R02.out rfl
    have d5 := row_cell (j := 5) R02.out rfl
    have d6 := row_cell (j := 6) R02.out rfl
    have e0 := row_cell (j := 0) R12.out rfl
    have e1 := row_cell (j := 1) R12.out rfl
    have e2 := row_cell (j := 2) R12.out rfl
    have e3 := row_cell (j := 3) R12.out rfl
    have e4 := row_cell (j := 4) R12.out rfl
    have e5 := row_cell (j := 5) R12.out rfl
    have e6 := row_cell (j := 6) R12.out rfl
    have f0 := fun j => row_frozen (j := j) R02.out
    have f1 := fun j => row_frozen (j := j) R12.out
    have c0 := row_cell (j := 0) hR1 rfl
    have c1 := row_cell (j := 1) hR1 rfl
    have c2 := row_cell (j := 2) hR1 rfl
    have fR := fun j => row_frozen (j := j) hR1
    have HAT : Hid (atR ≤ L.length ∧ L.drop atR = s2.l) := ⟨hR2, hR3⟩
    clear hR1 hR2 hR3 hR4 hR5 hR6
    have HAG2 := hid hag2
    have HVAL2 : Hid (s2.e = 0 → n2 = smV ⟨L, 0⟩) := fun _ => hval2
    have hnk := hval2.trans hk
    clear hag2 hval2 hk
    have h1 := hnk
    subst h1
    go_wp2_with fail
    clear d0 d1 d2 d3 d4 d5 d6 e0 e1 e2 e3 e4 e5 e6 f0 f1 c0 c1 c2 fR
    refine (many_any (w.heap.size + 1) L s2 _ (SR2.out.setOther (by omega)) HLL.out).mono ?_
    rintro ex w3 ⟨n3, s3, rfl, hn3, hrx, hag3, hval3, hgx⟩
    have R03 : Hid (w3.heap[w.heap.size]? = some (.cells #[.int .i64 0, .string ⟨#[]⟩, .int .i64 0, .int .i64 0, (.slice none 0 0), .int .i64 0, .bool false] 26 (0, 0))) := (hgx.block w.heap.size (by rw [set_size]; exact row_lt R02.out) (by simp)).trans ((heap_other _ HNE.out).trans R02.out)
    have R13 : Hid (w3.heap[w.heap.size + 2]? = some (.cells #[.int .i64 2, .string ⟨#[]⟩, .int .i64 0, .int .i64 0, (.slice none 0 0), .int .i64 0, .bool false] 26 (0, 0))) := (hgx.block (w.heap.size + 2) (by rw [set_size]; exact row_lt R12.out) (by simp)).trans (heap_set _ R12.out)
    have SR3 := hid hrx
    have HG3 := hid ((HG2.out.setNew (by omega)).trans hgx)
    clear hrx hgx
    obtain ⟨pR, capR, atR, hR1, hR2, hR3, hR4, hR5, hR6⟩ := SR3.out
    have d0 := row_cell (j := 0) R03.out rfl
    have d1 := row_cell (j := 1) R03.out rfl
    have d2 := row_cell (j := 2) R03.out rfl
    have d3 := row_cell (j := 3) R03.out rfl
    have d4 := row_cell (j := 4) R03.out rfl
    have d5 := row_cell (j := 5) R03.out rfl
    have d6 := row_cell (j := 6) R03.out rfl
    have e0 := row_cell (j := 0) R13.out rfl
    have e1 := row_cell (j := 1) R13.out rfl
    have e2 := row_cell (j := 2) R13.out rfl
    have e3 := row_cell (j := 3) R13.out rfl
    have e4 := row_cell (j := 4) R13.out rfl
    have e5 := row_cell (j := 5) R13.out rfl
    have e6 := row_cell (j := 6) R13.out rfl
    have f0 := fun j => row_frozen (j := j) R03.out
    have f1 := fun j => row_frozen (j := j) R13.out
    have c0 := row_cell (j := 0) hR1 rfl
    have c1 := row_cell (j := 1) hR1 rfl
    have c2 := row_cell (j := 2) hR1 rfl
    have fR := fun j => row_frozen (j := j) hR1
    have HAT : Hid (atR ≤ L.length ∧ L.drop atR = s3.l) := ⟨hR2, hR3⟩
    clear hR1 hR2 hR3 hR4 hR5 hR6
    go_wp2_with fail
    clear d0 d1 d2 d3 d4 d5 d6 e0 e1 e2 e3 e4 e5 e6 f0 f1 c0 c1 c2 fR
    refine (one_any (w.heap.size + 1) L s3 _ (SR3.out.setOther (by omega)) HLL.out).mono ?_
    rintro ex w4 ⟨n4, s4, rfl, hn4, hrx, hag4, hval4, hgx⟩
    have R04 : Hid (w4.heap[w.heap.size]? = some (.cells #[.int .i64 0, .string ⟨#[]⟩, .int .i64 0, .int .i64 0, (.slice none 0 0), .int .i64 0, .bool false] 26 (0, 0))) := (hgx.block w.heap.size (by rw [set_size]; exact row_lt R03.out) (by simp)).trans ((heap_other _ HNE.out).trans R03.out)
    have R14 : Hid (w4.heap[w.heap.size + 2]? = some (.cells #[.int .i64 2, .string ⟨#[]⟩, .int .i64 0, .int .i64 0, (.slice none 0 0), .int .i64 (n3 : Int), .bool false] 26 (0, 0))) := (hgx.block (w.heap.size + 2) (by rw [set_size]; exact row_lt R13.out) (by simp)).trans (heap_set _ R13.out)
    have SR4 := hid hrx
    have HG4 := hid ((HG3.out.setNew (by omega)).trans hgx)
    clear hrx hgx
    obtain ⟨pR, capR, atR, hR1, hR2, hR3, hR4, hR5, hR6⟩ := SR4.out
    have d0 := row_cell (j := 0) R04.out rfl
    have d1 := row_cell (j := 1) R04.out rfl
    have d2 := row_cell (j := 2) R04.out rfl
    have d3 := row_cell (j := 3) R04.out rfl
    have d4 := row_cell (j := 4) R04.out rfl
    have d5 := row_cell (j := 5) R04.out rfl
    have d6 := row_cell (j := 6) R04.out rfl
    have e0 := row_cell (j := 0) R14.out rfl
    have e1 := row_cell (j := 1) R14.out rfl
    have e2 := row_cell (j := 2) R14.out rfl
    have e3 := row_cell (j := 3) R14.out rfl
    have e4 := row_cell (j := 4) R14.out rfl
    have e5 := row_cell (j := 5) R14.out rfl
    have e6 := row_cell (j := 6) R14.out rfl
    have f0 := fun j => row_frozen (j := j) R04.out
    have f1 := fun j => row_frozen (j := j) R14.out
    have c0 := row_cell (j := 0) hR1 rfl
    have c1 := row_cell (j := 1) hR1 rfl
    have c2 := row_cell (j := 2) hR1 rfl
    have fR := fun j => row_frozen (j := j) hR1
    have HAT : Hid (atR ≤ L.length ∧ L.drop atR = s4.l) := ⟨hR2, hR3⟩
    clear hR1 hR2 hR3 hR4 hR5 hR6
    have HOV : Hid (s4.e = 0 → (⟨2, ⟨#[]⟩, 0, 0, [], (n3 : Int), decide (n4 = 1)⟩ : Opn) = opV ⟨L, 0⟩) := fun h0 => by
      have h3 := Ag.up (f := smS) (fun h => smS_keep h) hag4 h0
      have h2 := Ag.up (f := lnS 9 0 0) (fun h => lnk h) hag3 h3
      rw [opV_2 (HVAL2.out h2).symm, hval3 h3, hval4 h0, hag3.2 h3, HAG2.out.2 h2]
    have hkf : ∀ {s : Sx}, s.e ≠ 0 → (flS (lnS 9 0 0 s)).e = s.e := fun {s} h => by rw [flS_keep (by rw [lnk h]; exact h), lnk h]
    have hop : s2.e = 0 → opS ⟨L, 0⟩ = flS (lnS 9 0 0 (smS ⟨L, 0⟩)) := fun h0 => opS_2 (HVAL2.out h0).symm
    have hbn : ((n4 : Int) == 1) = decide (n4 = 1) := by rw [Bool.eq_iff_iff]; simp; omega
    by_cases hn : 1 < n4
    · have HAG : Hid (Ag (rfx s4 4) (opS ⟨L, 0⟩)) := way_ag (f := fun t => flS (lnS 9 0 0 t)) hkf HAG2.out hop (Ag.comp (f := flS) (fun h => flS_keep h) hag3 (fl_ag1 hag4 hval4 hn))
      have HRN : Hid ((rfx s4 4).e ≠ 0) := rfx_ne _ (by decide)
      have hni : (1 : Int) < n4 := by omega
      clear hag3 hval3 hag4 hval4 hkf hop HOV
      go_wp2_with fail
      clear d0 d1 d2 d3 d4 d5 d6 e0 e1 e2 e3 e4 e5 e6 f0 f1 c0 c1 c2 fR
      refine (stop_any (w.heap.size + 1) L s4 4 _ (SR4.out.setOther (by omega))).mono ?_
      rintro ex w5 ⟨rfl, hrx, hgx⟩
      obtain ⟨s5, hs5⟩ : ∃ x, rfx s4 4 = x := ⟨_, rfl⟩
      rw [hs5] at hrx
      have R05 : Hid (w5.heap[w.heap.size]? = some (.cells #[.int .i64 0, .string ⟨#[]⟩, .int .i64 0, .int .i64 0, (.slice none 0 0), .int .i64 0, .bool false] 26 (0, 0))) := (hgx.block w.heap.size (by rw [set_size]; exact row_lt R04.out) (by simp)).trans ((heap_other _ HNE.out).trans R04.out)
      have R15 : Hid (w5.heap[w.heap.size + 2]? = some (.cells #[.int .i64 2, .string ⟨#[]⟩, .int .i64 0, .int .i64 0, (.slice none 0 0), .int .i64 (n3 : Int), .bool (decide (n4 = 1))] 26 (0, 0))) := (hgx.block (w.heap.size + 2) (by rw [set_size]; exact row_lt R14.out) (by simp)).trans (heap_set _ R14.out)
      have SR5 := hid hrx
      have HG5 := hid ((HG4.out.setNew (by omega)).trans hgx)
      clear hrx hgx
      obtain ⟨pR, capR, atR, hR1, hR2, hR3, hR4, hR5, hR6⟩ := SR5.out
      have d0 := row_cell (j := 0) R05.out rfl
      have d1 := row_cell (j := 1) R05.out rfl
      have d2 := row_cell (j := 2) R05.out rfl
      have d3 := row_cell (j := 3) R05.out rfl
      have d4 := row_cell (j := 4) R05.out rfl
      have d5 := row_cell (j := 5) R05.out rfl
      have d6 := row_cell (j := 6) R05.out rfl
      have e0 := row_cell (j := 0) R15.out rfl
      have e1 := row_cell (j := 1) R15.out rfl
      have e2 := row_cell (j := 2) R15.out rfl
      have e3 := row_cell (j := 3) R15.out rfl
      have e4 := row_cell (j := 4) R15.out rfl
      have e5 := row_cell (j := 5) R15.out rfl
      have e6 := row_cell (j := 6) R15.out rfl
      have f0 := fun j => row_frozen (j := j) R05.out
      have f1 := fun j => row_frozen (j := j) R15.out
      have c0 := row_cell (j := 0) hR1 rfl
      have c1 := row_cell (j := 1) hR1 rfl
      have c2 := row_cell (j := 2) hR1 rfl
      have fR := fun j => row_frozen (j := j) hR1
      have HAT : Hid (atR ≤ L.length ∧ L.drop atR = s5.l) := ⟨hR2, hR3⟩
      clear hR1 hR2 hR3 hR4 hR5 hR6
      rw [hs5] at HAG HRN
      have HOV : Hid (s5.e = 0 → (⟨2, ⟨#[]⟩, 0, 0, [], (n3 : Int), decide (n4 = 1)⟩ : Opn) = opV ⟨L, 0⟩) := fun h0 => absurd h0 HRN.out
      clear hs5
      have hRb : w.heap.size + 1 ≠ w.heap.size + 2 := by omega
      by_cases he : s5.e = 0
      · rw [he] at c2
        by_cases hat : atR < L.length
        · have hati : (atR : Int) < (L.length : Int) := by omega
          have HDC : Hid (dcR L = (zop, 4)) := dc_a2 HLL.out HAG.out he (by rw [← HAT.out.2]; intro q; rw [List.drop_eq_nil_iff] at q; omega)
          go_wp2_with fail
          go_region
          all_goals
            try go_wp2
          all_goals
            refine ret2O (b := w.heap.size) (o := zop) (u := (.slice none 0 0)) 2 3 Try.results15 (by rfl) (drew_row (set7_row ((heap_other _ (by omega)).trans R05.out))) (by rfl) ⟨(.slice none 0 0), ?_, ?_, ?_⟩
            · rw [HDC.out]; rfl
            · rw [HDC.out]; exact VO.nil _ _
            · exact (((HG5.out.trans (Gb.set _ _ _ _)).set7 (by omega)).trans (Gb.of_below (Below.refl _ _).drew)).below (by omega) (Nat.le_refl _)
        · have hati : ¬ (atR : Int) < (L.length : Int) := by omega
          have HDC0 := hid (dc_a3 HLL.out HAG.out he (by rw [← HAT.out.2, List.drop_eq_nil_iff]; omega))
          rw [← HOV.out he] at HDC0
          have hva : ValsAt w5 (.slice none 0 0) [] := VO.va (VO.nil _ (w.heap.size + 3))
          have HWF := hid (wfault_any ⟨2, ⟨#[]⟩, 0, 0, [], (n3 : Int), (decide (n4 = 1))⟩ (.slice none 0 0) _ hva)
          obtain ⟨z, hz⟩ : ∃ z, ochk ⟨2, ⟨#[]⟩, 0, 0, [], (n3 : Int), (decide (n4 = 1))⟩ = z := ⟨_, rfl⟩
          rw [hz] at HDC0 HWF
          unfold opv at HWF
          simp only at HWF
          clear hz hva
          go_wp2_with fail
          refine HWF.out.mono ?_
          rintro ey wz ⟨rfl, hbz⟩
          have R0z : Hid (wz.heap[w.heap.size]? = some (.cells #[.int .i64 0, .string ⟨#[]⟩, .int .i64 0, .int .i64 0, (.slice none 0 0), .int .i64 0, .bool false] 26 (0, 0))) := (hbz.block _ (row_lt R05.out)).trans R05.out
          have R1z : Hid (wz.heap[w.heap.size + 2]? = some (.cells #[.int .i64 2, .string ⟨#[]⟩, .int .i64 0, .int .i64 0, (.slice none 0 0), .int .i64 (n3 : Int), .bool (decide (n4 = 1))] 26 (0, 0))) := (hbz.block _ (row_lt R15.out)).trans R15.out
          have SRz : Hid (SR wz (w.heap.size + 1) L s5) := (SR5.out).kept (fun k hk => hbz.block k (Nat.lt_of_le_of_lt hk (SR5.out).lt))
          have HGz := hid (HG5.out.trans (Gb.of_below hbz))
          clear hbz HWF
          clear d0 d1 d2 d3 d4 d5 d6 e0 e1 e2 e3 e4 e5 e6 f0 f1 c0 c1 c2 fR
          obtain ⟨pR, capR, atR, hR1, hR2, hR3, hR4, hR5, hR6⟩ := SRz.out
          rw [he] at hR1
          have d0 := row_cell (j := 0) R0z.out rfl
          have d1 := row_cell (j := 1) R0z.out rfl
          have d2 := row_cell (j := 2) R0z.out rfl
          have d3 := row_cell (j := 3) R0z.out rfl
          have d4 := row_cell (j := 4) R0z.out rfl
          have d5 := row_cell (j := 5) R0z.out rfl
          have d6 := row_cell (j := 6) R0z.out rfl
          have e0 := row_cell (j := 0) R1z.out rfl
          have e1 := row_cell (j := 1) R1z.out rfl
          have e2 := row_cell (j := 2) R1z.out rfl
          have e3 := row_cell (j := 3) R1z.out rfl
          have e4 := row_cell (j := 4) R1z.out rfl
          have e5 := row_cell (j := 5) R1z.out rfl
          have e6 := row_cell (j := 6) R1z.out rfl
          have f0 := fun j => row_frozen (j := j) R0z.out
          have f1 := fun j => row_frozen (j := j) R1z.out
          have c0 := row_cell (j := 0) hR1 rfl
          have c1 := row_cell (j := 1) hR1 rfl
          have c2 := row_cell (j := 2) hR1 rfl
          have fR := fun j => row_frozen (j := j) hR1
          clear hR1 hR2 hR3 hR4 hR5 hR6
          by_cases hz0 : z = 0
          · subst hz0
            have HDC : Hid (dcR L = (⟨2, ⟨#[]⟩, 0, 0, [], (n3 : Int), (decide (n4 = 1))⟩, 0)) := by rw [HDC0.out]; rfl
            clear HDC0
            go_wp2
            refine ret2O (b := w.heap.size) (o := ⟨2, ⟨#[]⟩, 0, 0, [], (n3 : Int), (decide (n4 = 1))⟩) (u := (.slice none 0 0)) 2 3 Try.results15 (by rfl) (set7_row ((heap_other _ (by omega)).trans R0z.out)) (by rfl) ⟨(.slice none 0 0), ?_, ?_, ?_⟩
            · rw [HDC.out]; rfl
            · rw [HDC.out]; exact VO.nil _ _
            · exact ((HGz.out.trans (Gb.set _ _ _ _)).set7 (by omega)).below (by omega) (Nat.le_refl _)
          · have hzb : (z != 0) = true := by simpa using hz0
            have hzc : (z == 0) = false := by simpa using hz0
            have HDC : Hid (dcR L = (zop, z)) := by rw [HDC0.out, if_pos hz0]; rfl
            clear HDC0
            go_wp2_with fail
            go_region
            all_goals
              try go_wp2
            all_goals
              refine ret2O (b := w.heap.size) (o := zop) (u := (.slice none 0 0)) 2 3 Try.results15 (by rfl) (drew_row (set7_row ((heap_other _ (by omega)).trans R0z.out))) (by rfl) ⟨(.slice none 0 0), ?_, ?_, ?_⟩
              · rw [HDC.out]; rfl
              · rw [HDC.out]; exact VO.nil _ _
              · exact (((HGz.out.trans (Gb.set _ _ _ _)).set7 (by omega)).trans (Gb.of_below (Below.refl _ _).drew)).below (by omega) (Nat.le_refl _)
      · have heb : (s5.e != 0) = true := by simpa using he
        have hec : (s5.e == 0) = false := by simpa using he
        have HDC : Hid (dcR L = (zop, s5.e)) := dc_a1 HLL.out HAG.out he
        go_wp2_with fail
        go_region
        all_goals
          try go_wp2
        all_goals
          refine ret2O (b := w.heap.size) (o := zop) (u := (.slice none 0 0)) 2 3 Try.results15 (by rfl) (drew_row (set7_row R05.out)) (by rfl) ⟨(.slice none 0 0), ?_, ?_, ?_⟩
          · rw [HDC.out]; rfl
          · rw [HDC.out]; exact VO.nil _ _
          · exact ((HG5.out.set7 (by omega)).trans (Gb.of_below (Below.refl _ _).drew)).below (by omega) (Nat.le_refl _)
    · have HAG : Hid (Ag s4 (opS ⟨L, 0⟩)) := way_ag (f := fun t => flS (lnS 9 0 0 t)) hkf HAG2.out hop (Ag.comp (f := flS) (fun h => flS_keep h) hag3 (fl_ag0 hag4 hval4 hn))
      have hni : ¬ (1 : Int) < n4 := by omega
      clear hag3 hval3 hag4 hval4 hkf hop
      have hRb : w.heap.size + 1 ≠ w.heap.size + 2 := by omega
      by_cases he : s4.e = 0
      · rw [he] at c2
        by_cases hat : atR < L.length
        · have hati : (atR : Int) < (L.length : Int) := by omega
          have HDC : Hid (dcR L = (zop, 4)) := dc_a2 HLL.out HAG.out he (by rw [← HAT.out.2]; intro q; rw [List.drop_eq_nil_iff] at q; omega)
          go_wp2_with fail
          go_region
          all_goals
            try go_wp2
          all_goals
            refine ret2O (b := w.heap.size) (o := zop) (u := (.slice none 0 0)) 2 3 Try.results15 (by rfl) (drew_row (set7_row ((heap_other _ (by omega)).trans ((heap_other _ HNE.out).trans R04.out)))) (by rfl) ⟨(.slice none 0 0), ?_, ?_, ?_⟩
            · rw [HDC.out]; rfl
            · rw [HDC.out]; exact VO.nil _ _
            · exact ((((HG4.out.setNew (by omega)).trans (Gb.set _ _ _ _)).set7 (by omega)).trans (Gb.of_below (Below.refl _ _).drew)).below (by omega) (Nat.le_refl _)
        · have hati : ¬ (atR : Int) < (L.length : Int) := by omega
          have HDC0 := hid (dc_a3 HLL.out HAG.out he (by rw [← HAT.out.2, List.drop_eq_nil_iff]; omega))
          rw [← HOV.out he] at HDC0
          have hva : ValsAt (w4.setCell ⟨w.heap.size + 2, 6, none⟩ (.bool (decide (n4 = 1)))) (.slice none 0 0) [] := VO.va (VO.nil _ (w.heap.size + 3))
          have HWF := hid (wfault_any ⟨2, ⟨#[]⟩, 0, 0, [], (n3 : Int), (decide (n4 = 1))⟩ (.slice none 0 0) _ hva)
          obtain ⟨z, hz⟩ : ∃ z, ochk ⟨2, ⟨#[]⟩, 0, 0, [], (n3 : Int), (decide (n4 = 1))⟩ = z := ⟨_, rfl⟩
          rw [hz] at HDC0 HWF
          unfold opv at HWF
          simp only at HWF
          clear hz hva
          go_wp2_with fail
          refine HWF.out.mono ?_
          rintro ey wz ⟨rfl, hbz⟩
          have R0z : Hid (wz.heap[w.heap.size]? = some (.cells #[.int .i64 0, .string ⟨#[]⟩, .int .i64 0, .int .i64 0, (.slice none 0 0), .int .i64 0, .bool false] 26 (0, 0))) := (hbz.block _ (by rw [set_size]; exact row_lt R04.out)).trans ((heap_other _ HNE.out).trans R04.out)
          have R1z : Hid (wz.heap[w.heap.size + 2]? = some (.cells #[.int .i64 2, .string ⟨#[]⟩, .int .i64 0, .int .i64 0, (.slice none 0 0), .int .i64 (n3 : Int), .bool (decide (n4 = 1))] 26 (0, 0))) := (hbz.block _ (by rw [set_size]; exact row_lt R14.out)).trans (heap_set _ R14.out)
          have SRz : Hid (SR wz (w.heap.size + 1) L s4) := ((SR4.out.setOther (by omega))).kept (fun k hk => hbz.block k (Nat.lt_of_le_of_lt hk ((SR4.out.setOther (by omega))).lt))
          have HGz := hid ((HG4.out.setNew (by omega)).trans (Gb.of_below hbz))
          clear hbz HWF
          clear d0 d1 d2 d3 d4 d5 d6 e0 e1 e2 e3 e4 e5 e6 f0 f1 c0 c1 c2 fR
          obtain ⟨pR, capR, atR, hR1, hR2, hR3, hR4, hR5, hR6⟩ := SRz.out
          rw [he] at hR1
          have d0 := row_cell (j := 0) R0z.out rfl
          have d1 := row_cell (j := 1) R0z.out rfl
          have d2 := row_cell (j := 2) R0z.out rfl
          have d3 := row_cell (j := 3) R0z.out rfl
          have d4 := row_cell (j := 4) R0z.out rfl
          have d5 := row_cell (j := 5) R0z.out rfl
          have d6 := row_cell (j := 6) R0z.out rfl
          have e0 := row_cell (j := 0) R1z.out rfl
          have e1 := row_cell (j := 1) R1z.out rfl
          have e2 := row_cell (j := 2) R1z.out rfl
          have e3 := row_cell (j := 3) R1z.out rfl
          have e4 := row_cell (j := 4) R1z.out rfl
          have e5 := row_cell (j := 5) R1z.out rfl
          have e6 := row_cell (j := 6) R1z.out rfl
          have f0 := fun j => row_frozen (j := j) R0z.out
          have f1 := fun j => row_frozen (j := j) R1z.out
          have c0 := row_cell (j := 0) hR1 rfl
          have c1 := row_cell (j := 1) hR1 rfl
          have c2 := row_cell (j := 2) hR1 rfl
          have fR := fun j => row_frozen (j := j) hR1
          clear hR1 hR2 hR3 hR4 hR5 hR6
          by_cases hz0 : z = 0
          · subst hz0
            have HDC : Hid (dcR L = (⟨2, ⟨#[]⟩, 0, 0, [], (n3 : Int), (decide (n4 = 1))⟩, 0)) := by rw [HDC0.out]; rfl
            clear HDC0
            go_wp2
            refine ret2O (b := w.heap.size) (o := ⟨2, ⟨#[]⟩, 0, 0, [], (n3 : Int), (decide (n4 = 1))⟩) (u := (.slice none 0 0)) 2 3 Try.results15 (by rfl) (set7_row ((heap_other _ (by omega)).trans R0z.out)) (by rfl) ⟨(.slice none 0 0), ?_, ?_, ?_⟩
            · rw [HDC.out]; rfl
            · rw [HDC.out]; exact VO.nil _ _
            · exact ((HGz.out.trans (Gb.set _ _ _ _)).set7 (by omega)).below (by omega) (Nat.le_refl _)
          · have hzb : (z != 0) = true := by simpa using hz0
            have hzc : (z == 0) = false := by simpa using hz0
            have HDC : Hid (dcR L = (zop, z)) := by rw [HDC0.out, if_pos hz0]; rfl
            clear HDC0
            go_wp2_with fail
            go_region
            all_goals
              try go_wp2
            all_goals
              refine ret2O (b := w.heap.size) (o := zop) (u := (.slice none 0 0)) 2 3 Try.results15 (by rfl) (drew_row (set7_row ((heap_other _ (by omega)).trans R0z.out))) (by rfl) ⟨(.slice none 0 0), ?_, ?_, ?_⟩
              · rw [HDC.out]; rfl
              · rw [HDC.out]; exact VO.nil _ _
              · exact (((HGz.out.trans (Gb.set _ _ _ _)).set7 (by omega)).trans (Gb.of_below (Below.refl _ _).drew)).below (by omega) (Nat.le_refl _)
      · have heb : (s4.e != 0) = true := by simpa using he
        have hec : (s4.e == 0) = false := by simpa using he
        have HDC : Hid (dcR L = (zop, s4.e)) := dc_a1 HLL.out HAG.out he
        go_wp2_with fail
        go_region
        all_goals
          try go_wp2
        all_goals
          refine ret2O (b := w.heap.size) (o := zop) (u := (.slice none 0 0)) 2 3 Try.results15 (by rfl) (drew_row (set7_row ((heap_other _ HNE.out).trans R04.out))) (by rfl) ⟨(.slice none 0 0), ?_, ?_, ?_⟩
          · rw [HDC.out]; rfl
          · rw [HDC.out]; exact VO.nil _ _
          · exact (((HG4.out.setNew (by omega)).set7 (by omega)).trans (Gb.of_below (Below.refl _ _).drew)).below (by omega) (Nat.le_refl _)
end Go.Proofs.Ytnfjdkaemgcllaa
