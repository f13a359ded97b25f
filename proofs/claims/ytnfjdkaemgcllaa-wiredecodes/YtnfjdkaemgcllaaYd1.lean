/-
  OperationOf, by the document.
-/
import Derived.Test.YtnfjdkaemgcllaaYh
namespace Go.Proofs.Ytnfjdkaemgcllaa
open Go.ChangeShapes Go.WideShapes Go.ChangeAt Go.RowKit Go.Maps
set_option linter.unusedVariables false
set_option linter.unusedSimpArgs false
set_option maxRecDepth 20000
set_option maxHeartbeats 32000000 in
theorem opOf_1 (L : List UInt8) (v : Value) (w : World) (hv : BA w v L) (hk : smV ⟨L, 0⟩ = 1) :
    Calls Try.prog 15 #[v] w fun e w' => ∃ u, e = .returned (.tuple #[opv (dcR L).1 u, .int .i64 (dcR L).2]) ∧ VO w' w.heap.size u (dcR L).1.l ∧ Below w.heap.size w w' := by
  obtain ⟨p, cap, rfl, hcap, hmax, hc⟩ := hv
  by_cases hbig : 20000 < L.length
  · have hbi : (20000 : Int) < (L.length : Int) := by omega
    have HDC : Hid (dcR L = (zop, 1)) := by show (if _ then _ else _) = _; rw [if_pos hbig]
    have R00 := hid (row_new w (.cells #[.int .i64 0, .string ⟨#[]⟩, .int .i64 0, .int .i64 0, (.slice none 0 0), .int .i64 0, .bool false] 26))
    have d0 := row_cell (j := 0) R00.out rfl
    clear hc hcap hmax
    go_enter Try.func15, Try.ntmps15
    go_wp2
    refine ret2O (b := w.heap.size) (o := zop) (u := (.slice none 0 0)) 2 3 Try.results15 (by rfl) R00.out (by rfl) ⟨(.slice none 0 0), ?_, ?_, ?_⟩
    · rw [HDC.out]; rfl
    · rw [HDC.out]; exact VO.nil _ _
    · exact ((Gb.refl w w.heap.size).alloc _).below (by omega) (Nat.le_refl _)
  · have hbi : ¬ (20000 : Int) < (L.length : Int) := by omega
    have HLL : Hid (L.length ≤ 20000) := by show L.length ≤ 20000; omega
    have HNE : Hid (w.heap.size ≠ w.heap.size + 2) := by show _ ≠ _; omega
    have R01 : Hid ((((w.alloc (.cells #[.int .i64 0, .string ⟨#[]⟩, .int .i64 0, .int .i64 0, (.slice none 0 0), .int .i64 0, .bool false] 26)).alloc (.cells #[.slice p L.length cap, .int .i64 0, .int .i64 0] 67)).alloc (.cells #[.int .i64 0, .string ⟨#[]⟩, .int .i64 0, .int .i64 0, (.slice none 0 0), .int .i64 0, .bool false] 26)).heap[w.heap.size]? = some (.cells #[.int .i64 0, .string ⟨#[]⟩, .int .i64 0, .int .i64 0, (.slice none 0 0), .int .i64 0, .bool false] 26 (0, 0))) := (Below.heap_alloc _ _ _ (by simp; omega)).trans ((Below.heap_alloc _ _ _ (by simp)).trans (row_new w _))
    have hs2 : ((w.alloc (.cells #[.int .i64 0, .string ⟨#[]⟩, .int .i64 0, .int .i64 0, (.slice none 0 0), .int .i64 0, .bool false] 26)).alloc (.cells #[.slice p L.length cap, .int .i64 0, .int .i64 0] 67)).heap.size = w.heap.size + 2 := by simp
    have hs1 : (w.alloc (.cells #[.int .i64 0, .string ⟨#[]⟩, .int .i64 0, .int .i64 0, (.slice none 0 0), .int .i64 0, .bool false] 26)).heap.size = w.heap.size + 1 := by simp
    have R11 : Hid ((((w.alloc (.cells #[.int .i64 0, .string ⟨#[]⟩, .int .i64 0, .int .i64 0, (.slice none 0 0), .int .i64 0, .bool false] 26)).alloc (.cells #[.slice p L.length cap, .int .i64 0, .int .i64 0] 67)).alloc (.cells #[.int .i64 0, .string ⟨#[]⟩, .int .i64 0, .int .i64 0, (.slice none 0 0), .int .i64 0, .bool false] 26)).heap[w.heap.size + 2]? = some (.cells #[.int .i64 0, .string ⟨#[]⟩, .int .i64 0, .int .i64 0, (.slice none 0 0), .int .i64 0, .bool false] 26 (0, 0))) := by
      have := row_new ((w.alloc (.cells #[.int .i64 0, .string ⟨#[]⟩, .int .i64 0, .int .i64 0, (.slice none 0 0), .int .i64 0, .bool false] 26)).alloc (.cells #[.slice p L.length cap, .int .i64 0, .int .i64 0] 67)) (.cells #[.int .i64 0, .string ⟨#[]⟩, .int .i64 0, .int .i64 0, (.slice none 0 0), .int .i64 0, .bool false] 26)
      rw [hs2] at this
      exact this
    have SR1 : Hid (SR (((w.alloc (.cells #[.int .i64 0, .string ⟨#[]⟩, .int .i64 0, .int .i64 0, (.slice none 0 0), .int .i64 0, .bool false] 26)).alloc (.cells #[.slice p L.length cap, .int .i64 0, .int .i64 0] 67)).alloc (.cells #[.int .i64 0, .string ⟨#[]⟩, .int .i64 0, .int .i64 0, (.slice none 0 0), .int .i64 0, .bool false] 26)) (w.heap.size + 1) L ⟨L, 0⟩) := by
      have hb : Below w.heap.size w (((w.alloc (.cells #[.int .i64 0, .string ⟨#[]⟩, .int .i64 0, .int .i64 0, (.slice none 0 0), .int .i64 0, .bool false] 26)).alloc (.cells #[.slice p L.length cap, .int .i64 0, .int .i64 0] 67)).alloc (.cells #[.int .i64 0, .string ⟨#[]⟩, .int .i64 0, .int .i64 0, (.slice none 0 0), .int .i64 0, .bool false] 26)) := (((Below.refl _ w).alloc (Nat.le_refl _) _).alloc (by simp) _).alloc (by simp; omega) _
      have hrow : (((w.alloc (.cells #[.int .i64 0, .string ⟨#[]⟩, .int .i64 0, .int .i64 0, (.slice none 0 0), .int .i64 0, .bool false] 26)).alloc (.cells #[.slice p L.length cap, .int .i64 0, .int .i64 0] 67)).alloc (.cells #[.int .i64 0, .string ⟨#[]⟩, .int .i64 0, .int .i64 0, (.slice none 0 0), .int .i64 0, .bool false] 26)).heap[w.heap.size + 1]? = some (.cells #[.slice p L.length cap, .int .i64 (0 : Nat), .int .i64 0] 67 (0, 0)) := by
        refine (Below.heap_alloc _ _ _ (by rw [hs2]; omega)).trans ?_
        have := row_new (w.alloc (.cells #[.int .i64 0, .string ⟨#[]⟩, .int .i64 0, .int .i64 0, (.slice none 0 0), .int .i64 0, .bool false] 26)) (.cells #[.slice p L.length cap, .int .i64 0, .int .i64 0] 67)
        rw [hs1] at this
        exact this
      refine ⟨p, cap, 0, hrow, Nat.zero_le _, rfl, hcap, hmax, fun c0 => ?_⟩
      obtain ⟨g, off, hp, hx⟩ := hc c0
      refine ⟨g, off, hp, by have := (hx 0 c0).1; omega, fun j hj => ?_⟩
      exact (hb.cell (p := ⟨g, off + j, none⟩) (hx j hj).1).trans (hx j hj).2
    have HG1 : Hid (Gb w (w.heap.size + 1) (((w.alloc (.cells #[.int .i64 0, .string ⟨#[]⟩, .int .i64 0, .int .i64 0, (.slice none 0 0), .int .i64 0, .bool false] 26)).alloc (.cells #[.slice p L.length cap, .int .i64 0, .int .i64 0] 67)).alloc (.cells #[.int .i64 0, .string ⟨#[]⟩, .int .i64 0, .int .i64 0, (.slice none 0 0), .int .i64 0, .bool false] 26))) := (((Gb.refl w _).alloc _).alloc _).alloc _
    clear hc hcap hmax hbig hs1 hs2
    go_enter Try.func15, Try.ntmps15
    go_wp2_with fail
    refine (oneF_any (w.heap.size + 1) L ⟨L, 0⟩ _ SR1.out rfl HLL.out).mono ?_
    rintro ex w2 ⟨n2, s2, rfl, hn2, hrx, hag2, hval2, hgx⟩
    have R02 : Hid (w2.heap[w.heap.size]? = some (.cells #[.int .i64 0, .string ⟨#[]⟩, .int .i64 0, .int .i64 0, (.slice none 0 0), .int .i64 0, .bool false] 26 (0, 0))) := (hgx.block w.heap.size (row_lt R01.out) (by simp)).trans R01.out
    have R12 : Hid (w2.heap[w.heap.size + 2]? = some (.cells #[.int .i64 0, .string ⟨#[]⟩, .int .i64 0, .int .i64 0, (.slice none 0 0), .int .i64 0, .bool false] 26 (0, 0))) := (hgx.block (w.heap.size + 2) (row_lt R11.out) (by simp)).trans R11.out
    have SR2 := hid hrx
    have HG2 := hid (HG1.out.trans hgx)
    clear hrx hgx
    obtain ⟨pR, capR, atR, hR1, hR2, hR3, hR4, hR5, hR6⟩ := SR2.out
    have d0 := row_cell (j := 0) R02.out rfl
    have d1 := row_cell (j := 1) R02.out rfl
    have d2 := row_cell (j := 2) R02.out rfl
    have d3 := row_cell (j := 3) R02.out rfl
    have d4 := row_cell (j := 4) R02.out rfl
    have d5 := row_cell (j := 5) R02.out rfl
    have d6 := row_cell (j := 6) R02.out rfl
    have e0 := row_cell (j := 0) R12.out rfl
    have e1 := row_cell (j := 1) R12.out rfl
    have e2 := row_cell (j := 2) R12.out rfl
    have e3 := row_cell (j := 3) R12.out rfl
    have e4 := row_cell (j := 4) R12.out rfl
    have e5 := row_cell (j := 5) R12.out rfl
    have e6 := row_cell (j := 6) R12.out rfl
    have f0 := fun j => row_frozen (j := j) R02.out
    have f1 := fun j => row_frozen (j := j) R12.out
    have c0 := row_cell (j := 0) hR1 rfl
    have c1 := row_cell (j := 1) hR1 rfl
    have c2 := row_cell (j := 2) hR1 rfl
    have fR := fun j => row_frozen (j := j) hR1
    have HAT : Hid (atR ≤ L.length ∧ L.drop atR = s2.l) := ⟨hR2, hR3⟩
    clear hR1 hR2 hR3 hR4 hR5 hR6
    have HAG2 := hid hag2
    have HVAL2 : Hid (s2.e = 0 → n2 = smV ⟨L, 0⟩) := fun _ => hval2
    have hnk := hval2.trans hk
    clear hag2 hval2 hk
    have h1 := hnk
    subst h1
    go_wp2_with fail
    clear d0 d1 d2 d3 d4 d5 d6 e0 e1 e2 e3 e4 e5 e6 f0 f1 c0 c1 c2 fR
    refine (str_any (w.heap.size + 1) L s2 _ (SR2.out.setOther (by omega)) HLL.out).mono ?_
    rintro ex w3 ⟨x3, s3, rfl, hrx, hag3, hval3, hgx⟩
    have R03 : Hid (w3.heap[w.heap.size]? = some (.cells #[.int .i64 0, .string ⟨#[]⟩, .int .i64 0, .int .i64 0, (.slice none 0 0), .int .i64 0, .bool false] 26 (0, 0))) := (hgx.block w.heap.size (by rw [set_size]; exact row_lt R02.out) (by simp)).trans ((heap_other _ HNE.out).trans R02.out)
    have R13 : Hid (w3.heap[w.heap.size + 2]? = some (.cells #[.int .i64 1, .string ⟨#[]⟩, .int .i64 0, .int .i64 0, (.slice none 0 0), .int .i64 0, .bool false] 26 (0, 0))) := (hgx.block (w.heap.size + 2) (by rw [set_size]; exact row_lt R12.out) (by simp)).trans (heap_set _ R12.out)
    have SR3 := hid hrx
    have HG3 := hid ((HG2.out.setNew (by omega)).trans hgx)
    clear hrx hgx
    obtain ⟨pR, capR, atR, hR1, hR2, hR3, hR4, hR5, hR6⟩ := SR3.out
    have d0 := row_cell (j := 0) R03.out rfl
    have d1 := row_cell (j := 1) R03.out rfl
    have d2 := row_cell (j := 2) R03.out rfl
    have d3 := row_cell (j := 3) R03.out rfl
    have d4 := row_cell (j := 4) R03.out rfl
    have d5 := row_cell (j := 5) R03.out rfl
    have d6 := row_cell (j := 6) R03.out rfl
    have e0 := row_cell (j := 0) R13.out rfl
    have e1 := row_cell (j := 1) R13.out rfl
    have e2 := row_cell (j := 2) R13.out rfl
    have e3 := row_cell (j := 3) R13.out rfl
    have e4 := row_cell (j := 4) R13.out rfl
    have e5 := row_cell (j := 5) R13.out rfl
    have e6 := row_cell (j := 6) R13.out rfl
    have f0 := fun j => row_frozen (j := j) R03.out
    have f1 := fun j => row_frozen (j := j) R13.out
    have c0 := row_cell (j := 0) hR1 rfl
    have c1 := row_cell (j := 1) hR1 rfl
    have c2 := row_cell (j := 2) hR1 rfl
    have fR := fun j => row_frozen (j := j) hR1
    have HAT : Hid (atR ≤ L.length ∧ L.drop atR = s3.l) := ⟨hR2, hR3⟩
    clear hR1 hR2 hR3 hR4 hR5 hR6
    go_wp2_with fail
    clear d0 d1 d2 d3 d4 d5 d6 e0 e1 e2 e3 e4 e5 e6 f0 f1 c0 c1 c2 fR
    refine (many_any (w.heap.size + 1) L s3 _ (SR3.out.setOther (by omega)) HLL.out).mono ?_
    rintro ex w4 ⟨n4, s4, rfl, hn4, hrx, hag4, hval4, hgx⟩
    have R04 : Hid (w4.heap[w.heap.size]? = some (.cells #[.int .i64 0, .string ⟨#[]⟩, .int .i64 0, .int .i64 0, (.slice none 0 0), .int .i64 0, .bool false] 26 (0, 0))) := (hgx.block w.heap.size (by rw [set_size]; exact row_lt R03.out) (by simp)).trans ((heap_other _ HNE.out).trans R03.out)
    have R14 : Hid (w4.heap[w.heap.size + 2]? = some (.cells #[.int .i64 1, .string x3, .int .i64 0, .int .i64 0, (.slice none 0 0), .int .i64 0, .bool false] 26 (0, 0))) := (hgx.block (w.heap.size + 2) (by rw [set_size]; exact row_lt R13.out) (by simp)).trans (heap_set _ R13.out)
    have SR4 := hid hrx
    have HG4 := hid ((HG3.out.setNew (by omega)).trans hgx)
    clear hrx hgx
    obtain ⟨pR, capR, atR, hR1, hR2, hR3, hR4, hR5, hR6⟩ := SR4.out
    have d0 := row_cell (j := 0) R04.out rfl
    have d1 := row_cell (j := 1) R04.out rfl
    have d2 := row_cell (j := 2) R04.out rfl
    have d3 := row_cell (j := 3) R04.out rfl
    have d4 := row_cell (j := 4) R04.out rfl
    have d5 := row_cell (j := 5) R04.out rfl
    have d6 := row_cell (j := 6) R04.out rfl
    have e0 := row_cell (j := 0) R14.out rfl
    have e1 := row_cell (j := 1) R14.out rfl
    have e2 := row_cell (j := 2) R14.out rfl
    have e3 := row_cell (j := 3) R14.out rfl
    have e4 := row_cell (j := 4) R14.out rfl
    have e5 := row_cell (j := 5) R14.out rfl
    have e6 := row_cell (j := 6) R14.out rfl
    have f0 := fun j => row_frozen (j := j) R04.out
    have f1 := fun j => row_frozen (j := j) R14.out
    have c0 := row_cell (j := 0) hR1 rfl
    have c1 := row_cell (j := 1) hR1 rfl
    have c2 := row_cell (j := 2) hR1 rfl
    have fR := fun j => row_frozen (j := j) hR1
    have HAT : Hid (atR ≤ L.length ∧ L.drop atR = s4.l) := ⟨hR2, hR3⟩
    clear hR1 hR2 hR3 hR4 hR5 hR6
    go_wp2_with fail
    clear d0 d1 d2 d3 d4 d5 d6 e0 e1 e2 e3 e4 e5 e6 f0 f1 c0 c1 c2 fR
    refine (many_any (w.heap.size + 1) L s4 _ (SR4.out.setOther (by omega)) HLL.out).mono ?_
    rintro ex w5 ⟨n5, s5, rfl, hn5, hrx, hag5, hval5, hgx⟩
    have R05 : Hid (w5.heap[w.heap.size]? = some (.cells #[.int .i64 0, .string ⟨#[]⟩, .int .i64 0, .int .i64 0, (.slice none 0 0), .int .i64 0, .bool false] 26 (0, 0))) := (hgx.block w.heap.size (by rw [set_size]; exact row_lt R04.out) (by simp)).trans ((heap_other _ HNE.out).trans R04.out)
    have R15 : Hid (w5.heap[w.heap.size + 2]? = some (.cells #[.int .i64 1, .string x3, .int .i64 (n4 : Int), .int .i64 0, (.slice none 0 0), .int .i64 0, .bool false] 26 (0, 0))) := (hgx.block (w.heap.size + 2) (by rw [set_size]; exact row_lt R14.out) (by simp)).trans (heap_set _ R14.out)
    have SR5 := hid hrx
    have HG5 := hid ((HG4.out.setNew (by omega)).trans hgx)
    clear hrx hgx
    obtain ⟨pR, capR, atR, hR1, hR2, hR3, hR4, hR5, hR6⟩ := SR5.out
    have d0 := row_cell (j := 0) R05.out rfl
    have d1 := row_cell (j := 1) R05.out rfl
    have d2 := row_cell (j := 2) R05.out rfl
    have d3 := row_cell (j := 3) R05.out rfl
    have d4 := row_cell (j := 4) R05.out rfl
    have d5 := row_cell (j := 5) R05.out rfl
    have d6 := row_cell (j := 6) R05.out rfl
    have e0 := row_cell (j := 0) R15.out rfl
    have e1 := row_cell (j := 1) R15.out rfl
    have e2 := row_cell (j := 2) R15.out rfl
    have e3 := row_cell (j := 3) R15.out rfl
    have e4 := row_cell (j := 4) R15.out rfl
    have e5 := row_cell (j := 5) R15.out rfl
    have e6 := row_cell (j := 6) R15.out rfl
    have f0 := fun j => row_frozen (j := j) R05.out
    have f1 := fun j => row_frozen (j := j) R15.out
    have c0 := row_cell (j := 0) hR1 rfl
    have c1 := row_cell (j := 1) hR1 rfl
    have c2 := row_cell (j := 2) hR1 rfl
    have fR := fun j => row_frozen (j := j) hR1
    have HAT : Hid (atR ≤ L.length ∧ L.drop atR = s5.l) := ⟨hR2, hR3⟩
    clear hR1 hR2 hR3 hR4 hR5 hR6
    go_wp2_with fail
    clear d0 d1 d2 d3 d4 d5 d6 e0 e1 e2 e3 e4 e5 e6 f0 f1 c0 c1 c2 fR
    refine (one_any (w.heap.size + 1) L s5 _ (SR5.out.setOther (by omega)) HLL.out).mono ?_
    rintro ex w6 ⟨n6, s6, rfl, hn6, hrx, hag6, hval6, hgx⟩
    have R06 : Hid (w6.heap[w.heap.size]? = some (.cells #[.int .i64 0, .string ⟨#[]⟩, .int .i64 0, .int .i64 0, (.slice none 0 0), .int .i64 0, .bool false] 26 (0, 0))) := (hgx.block w.heap.size (by rw [set_size]; exact row_lt R05.out) (by simp)).trans ((heap_other _ HNE.out).trans R05.out)
    have R16 : Hid (w6.heap[w.heap.size + 2]? = some (.cells #[.int .i64 1, .string x3, .int .i64 (n4 : Int), .int .i64 (n5 : Int), (.slice none 0 0), .int .i64 0, .bool false] 26 (0, 0))) := (hgx.block (w.heap.size + 2) (by rw [set_size]; exact row_lt R15.out) (by simp)).trans (heap_set _ R15.out)
    have SR6 := hid hrx
    have HG6 := hid ((HG5.out.setNew (by omega)).trans hgx)
    clear hrx hgx
    obtain ⟨pR, capR, atR, hR1, hR2, hR3, hR4, hR5, hR6⟩ := SR6.out
    have d0 := row_cell (j := 0) R06.out rfl
    have d1 := row_cell (j := 1) R06.out rfl
    have d2 := row_cell (j := 2) R06.out rfl
    have d3 := row_cell (j := 3) R06.out rfl
    have d4 := row_cell (j := 4) R06.out rfl
    have d5 := row_cell (j := 5) R06.out rfl
    have d6 := row_cell (j := 6) R06.out rfl
    have e0 := row_cell (j := 0) R16.out rfl
    have e1 := row_cell (j := 1) R16.out rfl
    have e2 := row_cell (j := 2) R16.out rfl
    have e3 := row_cell (j := 3) R16.out rfl
    have e4 := row_cell (j := 4) R16.out rfl
    have e5 := row_cell (j := 5) R16.out rfl
    have e6 := row_cell (j := 6) R16.out rfl
    have f0 := fun j => row_frozen (j := j) R06.out
    have f1 := fun j => row_frozen (j := j) R16.out
    have c0 := row_cell (j := 0) hR1 rfl
    have c1 := row_cell (j := 1) hR1 rfl
    have c2 := row_cell (j := 2) hR1 rfl
    have fR := fun j => row_frozen (j := j) hR1
    have HAT : Hid (atR ≤ L.length ∧ L.drop atR = s6.l) := ⟨hR2, hR3⟩
    clear hR1 hR2 hR3 hR4 hR5 hR6
    have HF : Hid (∀ t', Ag t' (vsR s5).2 → Ag t' (opS ⟨L, 0⟩)) := fun t' hx =>
      way_ag (f := fun t => (vsR (lnS 9 0 0 (lnS 9 0 0 (txS t)))).2) (fun {s} h => by rw [vsRk (by rw [lnk (by rw [lnk (by rw [txS_keep h]; exact h), txS_keep h]; exact h), lnk (by rw [txS_keep h]; exact h), txS_keep h]; exact h), lnk (by rw [lnk (by rw [txS_keep h]; exact h), txS_keep h]; exact h), lnk (by rw [txS_keep h]; exact h), txS_keep h]) HAG2.out (fun h0 => opS_1 (HVAL2.out h0).symm)
        (Ag.comp (f := fun t => (vsR (lnS 9 0 0 (lnS 9 0 0 t))).2) (fun {s} h => by rw [vsRk (by rw [lnk (by rw [lnk h]; exact h), lnk h]; exact h), lnk (by rw [lnk h]; exact h), lnk h]) hag3
          (Ag.comp (f := fun t => (vsR (lnS 9 0 0 t)).2) (fun {s} h => by rw [vsRk (by rw [lnk h]; exact h), lnk h]) hag4
            (Ag.comp (f := fun t => (vsR t).2) (fun h => vsRk h) hag5 hx)))
    have HOVF : Hid (∀ (t' : Sx) (acc : List Vl), Ag t' (vsR s5).2 → (t'.e = 0 → acc = (vsR s5).1) → t'.e = 0 → (⟨1, x3, (n4 : Int), (n5 : Int), acc, 0, false⟩ : Opn) = opV ⟨L, 0⟩) := fun t' acc hx hacc h0 => by
      have h5 := Ag.up (f := fun t => (vsR t).2) (fun h => vsRk h) hx h0
      have h4 := Ag.up (f := lnS 9 0 0) (fun h => lnk h) hag5 h5
      have h3 := Ag.up (f := lnS 9 0 0) (fun h => lnk h) hag4 h4
      have h2 := Ag.up (f := txS) (fun h => txS_keep h) hag3 h3
      rw [opV_1 (HVAL2.out h2).symm, hacc h0, hval5 h5, hval4 h4, hval3 h3, hag5.2 h5, hag4.2 h4, hag3.2 h3, HAG2.out.2 h2]
    have HVS := hid (Vg.start hag6 hval6)
    clear hag3 hval3 hag4 hval4 hag5 hval5 hag6 hval6
    go_wp2_with fail
    clear d0 d1 d2 d3 d4 d5 d6 e0 e1 e2 e3 e4 e5 e6 f0 f1 c0 c1 c2 fR
    go_loopw [8] (fun i wr => ∃ (j : Nat) (t : Sx) (acc : List Vl) (pu : Option Addr) (nu cu : Nat), i = .int .i64 j ∧ j ≤ n6 ∧ wr.heap[w.heap.size]? = some (.cells #[.int .i64 0, .string ⟨#[]⟩, .int .i64 0, .int .i64 0, (.slice none 0 0), .int .i64 0, .bool false] 26 (0, 0)) ∧ wr.heap[w.heap.size + 2]? = some (.cells #[.int .i64 1, .string x3, .int .i64 (n4 : Int), .int .i64 (n5 : Int), (.slice pu nu cu), .int .i64 0, .bool false] 26 (0, 0)) ∧ SR wr (w.heap.size + 1) L t ∧ VO wr (w.heap.size + 3) (.slice pu nu cu) acc ∧ Gb w (w.heap.size + 1) wr ∧ Vg t (n6 - j) acc (vsR s5) ∧ acc.length ≤ j) (fun i _ => n6 + 1 - (intOf i).toNat)
    case atStart => exact ⟨0, s6, [], none, 0, 0, rfl, by omega, R06.out, R16.out, SR6.out, VO.nil _ _, HG6.out, HVS.out, by simp⟩
    case round =>
      obtain ⟨j, s7, acc, pu, nu, cu, rfl, hj, hr0, hr1, hsr, hvo, hgb, hvg, hal⟩ := hrel
      have R07 := hid hr0
      have R17 := hid hr1
      have SR7 := hid hsr
      have HV7 := hid hvo
      have HG7 := hid hgb
      have HVG := hid hvg
      have HAL : Hid (acc.length ≤ j ∧ acc.length ≤ 300) := ⟨by omega, by omega⟩
      clear hr0 hr1 hsr hvo hgb hvg hal
      obtain ⟨pR, capR, atR, hR1, hR2, hR3, hR4, hR5, hR6⟩ := SR7.out
      have d0 := row_cell (j := 0) R07.out rfl
      have d1 := row_cell (j := 1) R07.out rfl
      have d2 := row_cell (j := 2) R07.out rfl
      have d3 := row_cell (j := 3) R07.out rfl
      have d4 := row_cell (j := 4) R07.out rfl
      have d5 := row_cell (j := 5) R07.out rfl
      have d6 := row_cell (j := 6) R07.out rfl
      have e0 := row_cell (j := 0) R17.out rfl
      have e1 := row_cell (j := 1) R17.out rfl
      have e2 := row_cell (j := 2) R17.out rfl
      have e3 := row_cell (j := 3) R17.out rfl
      have e4 := row_cell (j := 4) R17.out rfl
      have e5 := row_cell (j := 5) R17.out rfl
      have e6 := row_cell (j := 6) R17.out rfl
      have f0 := fun j => row_frozen (j := j) R07.out
      have f1 := fun j => row_frozen (j := j) R17.out
      have c0 := row_cell (j := 0) hR1 rfl
      have c1 := row_cell (j := 1) hR1 rfl
      have c2 := row_cell (j := 2) hR1 rfl
      have fR := fun j => row_frozen (j := j) hR1
      have HAT : Hid (atR ≤ L.length ∧ L.drop atR = s7.l) := ⟨hR2, hR3⟩
      clear hR1 hR2 hR3 hR4 hR5 hR6
      by_cases hj1 : j < n6
      · have hji : (j : Int) < n6 := by omega
        by_cases ht : s7.e = 0
        · have hsz := row_lt R17.out
          have HBR : Hid (w.heap.size + 1 < wr.heap.size) := by show _ < _; omega
          have HW2 : Hid (w.heap.size ≤ wr.heap.size) := by show _ ≤ _; omega
          have HN0 : Hid (w.heap.size ≠ wr.heap.size) := by show _ ≠ _; omega
          have HN2 : Hid (w.heap.size + 2 ≠ wr.heap.size) := by show _ ≠ _; omega
          have q0 : wr.heap.size ≠ w.heap.size := by omega
          have q1 : wr.heap.size ≠ w.heap.size + 1 := by omega
          have q2 : wr.heap.size ≠ w.heap.size + 2 := by omega
          have q3 : w.heap.size ≠ wr.heap.size := by omega
          have q4 : w.heap.size + 1 ≠ wr.heap.size := by omega
          have q5 : w.heap.size + 2 ≠ wr.heap.size := by omega
          have HOWN : Hid (∀ k, (Value.slice pu nu cu).ownBlock = some k → k ≠ wr.heap.size) := fun k hk => by have := (World.ownsRow.lt HV7.out k hk).2; omega
          rw [ht] at c2
          go_wp2_with fail
          clear d0 d1 d2 d3 d4 d5 d6 e0 e1 e2 e3 e4 e5 e6 f0 f1 c0 c1 c2 fR
          refine (one_any (w.heap.size + 1) L s7 _ (SR7.out.alloc _) HLL.out).mono ?_
          rintro ex w8 ⟨n8, s8, rfl, hn8, hrx, hag8, hval8, hgx⟩
          have R08 : Hid (w8.heap[w.heap.size]? = some (.cells #[.int .i64 0, .string ⟨#[]⟩, .int .i64 0, .int .i64 0, (.slice none 0 0), .int .i64 0, .bool false] 26 (0, 0))) := (hgx.block w.heap.size (by have := row_lt R07.out; simp; omega) (by simp)).trans ((Below.heap_alloc _ _ _ (row_lt R07.out)).trans R07.out)
          have R18 : Hid (w8.heap[w.heap.size + 2]? = some (.cells #[.int .i64 1, .string x3, .int .i64 (n4 : Int), .int .i64 (n5 : Int), (.slice pu nu cu), .int .i64 0, .bool false] 26 (0, 0))) := (hgx.block (w.heap.size + 2) (by have := row_lt R17.out; simp; omega) (by simp)).trans ((Below.heap_alloc _ _ _ (row_lt R17.out)).trans R17.out)
          have R28 : Hid (w8.heap[wr.heap.size]? = some (.cells #[.int .i64 0, .int .i64 0, .string ⟨#[]⟩] 52 (0, 0))) := (hgx.block wr.heap.size (by simp) (by simp; omega)).trans (row_new wr _)
          have SR8 := hid hrx
          have HG8 := hid ((HG7.out.alloc (.cells #[.int .i64 0, .int .i64 0, .string ⟨#[]⟩] 52)).trans hgx)
          have HV8 : Hid (VO w8 (w.heap.size + 3) (.slice pu nu cu) acc) := HV7.out.kept (fun k hk hlk => (hgx.block k (by simp; omega) (by simp; omega)).trans (Below.heap_alloc _ _ _ hlk))
          have HAG8 := hid hag8
          have HVAL8 := hid hval8
          clear hrx hgx hag8 hval8 hsz
          obtain ⟨pR, capR, atR, hR1, hR2, hR3, hR4, hR5, hR6⟩ := SR8.out
          have d0 := row_cell (j := 0) R08.out rfl
          have d1 := row_cell (j := 1) R08.out rfl
          have d2 := row_cell (j := 2) R08.out rfl
          have d3 := row_cell (j := 3) R08.out rfl
          have d4 := row_cell (j := 4) R08.out rfl
          have d5 := row_cell (j := 5) R08.out rfl
          have d6 := row_cell (j := 6) R08.out rfl
          have e0 := row_cell (j := 0) R18.out rfl
          have e1 := row_cell (j := 1) R18.out rfl
          have e2 := row_cell (j := 2) R18.out rfl
          have e3 := row_cell (j := 3) R18.out rfl
          have e4 := row_cell (j := 4) R18.out rfl
          have e5 := row_cell (j := 5) R18.out rfl
          have e6 := row_cell (j := 6) R18.out rfl
          have f0 := fun j => row_frozen (j := j) R08.out
          have f1 := fun j => row_frozen (j := j) R18.out
          have c0 := row_cell (j := 0) hR1 rfl
          have c1 := row_cell (j := 1) hR1 rfl
          have c2 := row_cell (j := 2) hR1 rfl
          have fR := fun j => row_frozen (j := j) hR1
          have HAT8 : Hid (atR ≤ L.length ∧ L.drop atR = s8.l) := ⟨hR2, hR3⟩
          clear hR1 hR2 hR3 hR4 hR5 hR6
          have g0 := row_cell (j := 0) R28.out rfl
          have g1 := row_cell (j := 1) R28.out rfl
          have g2 := row_cell (j := 2) R28.out rfl
          have f2 := fun j => row_frozen (j := j) R28.out
          rcases (by omega : n8 = 1 ∨ n8 = 2 ∨ (n8 ≠ 1 ∧ n8 ≠ 2)) with h1 | h1 | ⟨h1, h2⟩
          · subst h1
            go_wp2_with fail
            clear d0 d1 d2 d3 d4 d5 d6 e0 e1 e2 e3 e4 e5 e6 f0 f1 c0 c1 c2 fR
            clear g0 g1 g2 f2
            refine (many_any (w.heap.size + 1) L s8 _ (SR8.out.setOther HBR.out) HLL.out).mono ?_
            rintro ex w9 ⟨n9, s9, rfl, hn9, hrx, hag9, hval9, hgx⟩
            have R09 : Hid (w9.heap[w.heap.size]? = some (.cells #[.int .i64 0, .string ⟨#[]⟩, .int .i64 0, .int .i64 0, (.slice none 0 0), .int .i64 0, .bool false] 26 (0, 0))) := (hgx.block w.heap.size (by rw [set_size]; exact row_lt R08.out) (by simp)).trans ((heap_other _ HN0.out).trans R08.out)
            have R19 : Hid (w9.heap[w.heap.size + 2]? = some (.cells #[.int .i64 1, .string x3, .int .i64 (n4 : Int), .int .i64 (n5 : Int), (.slice pu nu cu), .int .i64 0, .bool false] 26 (0, 0))) := (hgx.block (w.heap.size + 2) (by rw [set_size]; exact row_lt R18.out) (by simp)).trans ((heap_other _ HN2.out).trans R18.out)
            have R29 : Hid (w9.heap[wr.heap.size]? = some (.cells #[.int .i64 1, .int .i64 0, .string ⟨#[]⟩] 52 (0, 0))) := (hgx.block wr.heap.size (by rw [set_size]; exact row_lt R28.out) (by have := HBR.out; simp; omega)).trans (heap_set _ R28.out)
            have SR9 := hid hrx
            have HG9 := hid ((HG8.out.setNew HW2.out).trans hgx)
            have HV9 : Hid (VO w9 (w.heap.size + 3) (.slice pu nu cu) acc) := (HV8.out.set2 HOWN.out).kept (fun q hq hlq => hgx.block q hlq (by simp; omega))
            clear hrx hgx
            obtain ⟨pR, capR, atR, hR1, hR2, hR3, hR4, hR5, hR6⟩ := SR9.out
            have d0 := row_cell (j := 0) R09.out rfl
            have d1 := row_cell (j := 1) R09.out rfl
            have d2 := row_cell (j := 2) R09.out rfl
            have d3 := row_cell (j := 3) R09.out rfl
            have d4 := row_cell (j := 4) R09.out rfl
            have d5 := row_cell (j := 5) R09.out rfl
            have d6 := row_cell (j := 6) R09.out rfl
            have e0 := row_cell (j := 0) R19.out rfl
            have e1 := row_cell (j := 1) R19.out rfl
            have e2 := row_cell (j := 2) R19.out rfl
            have e3 := row_cell (j := 3) R19.out rfl
            have e4 := row_cell (j := 4) R19.out rfl
            have e5 := row_cell (j := 5) R19.out rfl
            have e6 := row_cell (j := 6) R19.out rfl
            have f0 := fun j => row_frozen (j := j) R09.out
            have f1 := fun j => row_frozen (j := j) R19.out
            have c0 := row_cell (j := 0) hR1 rfl
            have c1 := row_cell (j := 1) hR1 rfl
            have c2 := row_cell (j := 2) hR1 rfl
            have fR := fun j => row_frozen (j := j) hR1
            have HAT9 : Hid (atR ≤ L.length ∧ L.drop atR = s9.l) := ⟨hR2, hR3⟩
            clear hR1 hR2 hR3 hR4 hR5 hR6
            have g0 := row_cell (j := 0) R29.out rfl
            have g1 := row_cell (j := 1) R29.out rfl
            have g2 := row_cell (j := 2) R29.out rfl
            have f2 := fun j => row_frozen (j := j) R29.out
            have HVN : Hid (Vg s9 (n6 - (j + 1)) (acc ++ [(⟨1, sgZ n9, ⟨#[]⟩⟩ : Vl)]) (vsR s5)) := by
              have h9 := HVG.out
              rw [show n6 - j = n6 - (j + 1) + 1 by omega] at h9
              exact h9.next ht (vl_ag (f := lnS 9 0 0) (fun h => lnk h) HAG8.out (fun h0 => by have := HVAL8.out h0; unfold vlS; rw [if_pos this.symm]) hag9) (fun h0 => by
                have h8 := Ag.up (f := lnS 9 0 0) (fun h => lnk h) hag9 h0
                have := HVAL8.out h8
                unfold vlV
                rw [if_pos this.symm, hval9 h0, HAG8.out.2 h8])
            clear hag9 hval9
            have hdv : wrap64 ((n9 : Int) / 2) = (n9 : Int) / 2 := by unfold wrap64; omega
            by_cases ho : n9 % 2 = 1
            · have k1 : (n9 : Int) % 2 = 1 := by omega
              have k2 : wrap64 (-((n9 : Int) / 2)) = -((n9 : Int) / 2) := by unfold wrap64; omega
              have k3 : wrap64 (-((n9 : Int) / 2) - 1) = sgZ n9 := by unfold wrap64 sgZ; rw [if_pos ho]; omega
              have k4 : -((n9 : Int) / 2) - 1 = sgZ n9 := by unfold sgZ; rw [if_pos ho]; omega
              have k5 : wrap64 (sgZ n9) = sgZ n9 := by unfold wrap64 sgZ; rw [if_pos ho]; omega
              clear hn9
              have HVX : Hid (VO ((w9.setCell ⟨wr.heap.size, 1, none⟩ (.int .i64 ((n9 : Int) / 2))).setCell ⟨wr.heap.size, 1, none⟩ (.int .i64 (sgZ n9))) (w.heap.size + 3) (.slice pu nu cu) acc) := ((HV9.out.set2 HOWN.out).set2 HOWN.out)
              have HRX : Hid (SR ((w9.setCell ⟨wr.heap.size, 1, none⟩ (.int .i64 ((n9 : Int) / 2))).setCell ⟨wr.heap.size, 1, none⟩ (.int .i64 (sgZ n9))) (w.heap.size + 1) L s9) := ((SR9.out.setOther HBR.out).setOther HBR.out)
              have HGX : Hid (Gb w (w.heap.size + 1) ((w9.setCell ⟨wr.heap.size, 1, none⟩ (.int .i64 ((n9 : Int) / 2))).setCell ⟨wr.heap.size, 1, none⟩ (.int .i64 (sgZ n9)))) := ((HG9.out.setNew HW2.out).setNew HW2.out)
              have R0X : Hid (((w9.setCell ⟨wr.heap.size, 1, none⟩ (.int .i64 ((n9 : Int) / 2))).setCell ⟨wr.heap.size, 1, none⟩ (.int .i64 (sgZ n9))).heap[w.heap.size]? = some (.cells #[.int .i64 0, .string ⟨#[]⟩, .int .i64 0, .int .i64 0, (.slice none 0 0), .int .i64 0, .bool false] 26 (0, 0))) := ((heap_other _ HN0.out).trans ((heap_other _ HN0.out).trans R09.out))
              have R1X : Hid (((w9.setCell ⟨wr.heap.size, 1, none⟩ (.int .i64 ((n9 : Int) / 2))).setCell ⟨wr.heap.size, 1, none⟩ (.int .i64 (sgZ n9))).heap[w.heap.size + 2]? = some (.cells #[.int .i64 1, .string x3, .int .i64 (n4 : Int), .int .i64 (n5 : Int), (.slice pu nu cu), .int .i64 0, .bool false] 26 (0, 0))) := ((heap_other _ HN2.out).trans ((heap_other _ HN2.out).trans R19.out))
              have HSX : Hid (w.heap.size + 3 ≤ ((w9.setCell ⟨wr.heap.size, 1, none⟩ (.int .i64 ((n9 : Int) / 2))).setCell ⟨wr.heap.size, 1, none⟩ (.int .i64 (sgZ n9))).heap.size) := by have h9 := HGX.out.size; have h8 := row_lt R1X.out; show _ ≤ _; omega
              go_wp2_with (at_builtin; go_loud (refine wp_pushV (by rfl) _ _ (by rfl) ((w9.setCell ⟨wr.heap.size, 1, none⟩ (.int .i64 ((n9 : Int) / 2))).setCell ⟨wr.heap.size, 1, none⟩ (.int .i64 (sgZ n9))) (w.heap.size + 3) _ acc (by rfl) HVX.out (by rfl) (by first | rfl | simp) ⟨1, sgZ n9, ⟨#[]⟩⟩ (by have := HAL.out; omega) HSX.out ?_); intro v10 w10 hown hbl; have HV10 := hid hown; have R0Y : Hid (w10.heap[w.heap.size]? = some (.cells #[.int .i64 0, .string ⟨#[]⟩, .int .i64 0, .int .i64 0, (.slice none 0 0), .int .i64 0, .bool false] 26 (0, 0))) := (hbl.1.block _ (row_lt R0X.out) (fun e => by have := (World.ownsRow.lt HVX.out _ e.symm).1; omega)).trans R0X.out; have R1Y : Hid (w10.heap[w.heap.size + 2]? = some (.cells #[.int .i64 1, .string x3, .int .i64 (n4 : Int), .int .i64 (n5 : Int), (.slice pu nu cu), .int .i64 0, .bool false] 26 (0, 0))) := (hbl.1.block _ (row_lt R1X.out) (fun e => by have := (World.ownsRow.lt HVX.out _ e.symm).1; omega)).trans R1X.out; have SRY : Hid (SR w10 (w.heap.size + 1) L s9) := HRX.out.kept (fun k hk => hbl.1.block k (Nat.lt_of_le_of_lt hk HRX.out.lt) (fun e => by have := (World.ownsRow.lt HVX.out _ e.symm).1; omega)); have HGY : Hid (Gb w (w.heap.size + 1) w10) := HGX.out.grow hbl (VO.weak HVX.out (by omega)); have y0 := fun j => row_frozen (j := j) R1Y.out; have y4 := row_cell (j := 4) R1Y.out rfl; obtain ⟨pv, nv, cv, hvv⟩ := hown.shape3; subst hvv; clear hown hbl)
              go_roundw
              case rel => exact ⟨j + 1, s9, acc ++ [(⟨1, sgZ n9, ⟨#[]⟩⟩ : Vl)], pv, nv, cv, by go_num, by omega, (heap_other _ (by omega)).trans R0Y.out, heap_set _ R1Y.out, SRY.out.setOther (by omega), HV10.out.set (by omega), HGY.out.setNew (by omega), HVN.out, by have := HAL.out; simp; omega⟩
              case measure => exact measN (by first | rfl | simp) hj1
            · have k1 : (n9 : Int) % 2 = 0 := by omega
              have k4 : (n9 : Int) / 2 = sgZ n9 := by unfold sgZ; rw [if_neg ho]; omega
              have k5 : wrap64 (sgZ n9) = sgZ n9 := by unfold wrap64 sgZ; rw [if_neg ho]; omega
              clear hn9
              have HVX : Hid (VO (w9.setCell ⟨wr.heap.size, 1, none⟩ (.int .i64 (sgZ n9))) (w.heap.size + 3) (.slice pu nu cu) acc) := (HV9.out.set2 HOWN.out)
              have HRX : Hid (SR (w9.setCell ⟨wr.heap.size, 1, none⟩ (.int .i64 (sgZ n9))) (w.heap.size + 1) L s9) := (SR9.out.setOther HBR.out)
              have HGX : Hid (Gb w (w.heap.size + 1) (w9.setCell ⟨wr.heap.size, 1, none⟩ (.int .i64 (sgZ n9)))) := (HG9.out.setNew HW2.out)
              have R0X : Hid ((w9.setCell ⟨wr.heap.size, 1, none⟩ (.int .i64 (sgZ n9))).heap[w.heap.size]? = some (.cells #[.int .i64 0, .string ⟨#[]⟩, .int .i64 0, .int .i64 0, (.slice none 0 0), .int .i64 0, .bool false] 26 (0, 0))) := ((heap_other _ HN0.out).trans R09.out)
              have R1X : Hid ((w9.setCell ⟨wr.heap.size, 1, none⟩ (.int .i64 (sgZ n9))).heap[w.heap.size + 2]? = some (.cells #[.int .i64 1, .string x3, .int .i64 (n4 : Int), .int .i64 (n5 : Int), (.slice pu nu cu), .int .i64 0, .bool false] 26 (0, 0))) := ((heap_other _ HN2.out).trans R19.out)
              have HSX : Hid (w.heap.size + 3 ≤ (w9.setCell ⟨wr.heap.size, 1, none⟩ (.int .i64 (sgZ n9))).heap.size) := by have h9 := HGX.out.size; have h8 := row_lt R1X.out; show _ ≤ _; omega
              go_wp2_with (at_builtin; go_loud (refine wp_pushV (by rfl) _ _ (by rfl) (w9.setCell ⟨wr.heap.size, 1, none⟩ (.int .i64 (sgZ n9))) (w.heap.size + 3) _ acc (by rfl) HVX.out (by rfl) (by first | rfl | simp) ⟨1, sgZ n9, ⟨#[]⟩⟩ (by have := HAL.out; omega) HSX.out ?_); intro v10 w10 hown hbl; have HV10 := hid hown; have R0Y : Hid (w10.heap[w.heap.size]? = some (.cells #[.int .i64 0, .string ⟨#[]⟩, .int .i64 0, .int .i64 0, (.slice none 0 0), .int .i64 0, .bool false] 26 (0, 0))) := (hbl.1.block _ (row_lt R0X.out) (fun e => by have := (World.ownsRow.lt HVX.out _ e.symm).1; omega)).trans R0X.out; have R1Y : Hid (w10.heap[w.heap.size + 2]? = some (.cells #[.int .i64 1, .string x3, .int .i64 (n4 : Int), .int .i64 (n5 : Int), (.slice pu nu cu), .int .i64 0, .bool false] 26 (0, 0))) := (hbl.1.block _ (row_lt R1X.out) (fun e => by have := (World.ownsRow.lt HVX.out _ e.symm).1; omega)).trans R1X.out; have SRY : Hid (SR w10 (w.heap.size + 1) L s9) := HRX.out.kept (fun k hk => hbl.1.block k (Nat.lt_of_le_of_lt hk HRX.out.lt) (fun e => by have := (World.ownsRow.lt HVX.out _ e.symm).1; omega)); have HGY : Hid (Gb w (w.heap.size + 1) w10) := HGX.out.grow hbl (VO.weak HVX.out (by omega)); have y0 := fun j => row_frozen (j := j) R1Y.out; have y4 := row_cell (j := 4) R1Y.out rfl; obtain ⟨pv, nv, cv, hvv⟩ := hown.shape3; subst hvv; clear hown hbl)
              go_roundw
              case rel => exact ⟨j + 1, s9, acc ++ [(⟨1, sgZ n9, ⟨#[]⟩⟩ : Vl)], pv, nv, cv, by go_num, by omega, (heap_other _ (by omega)).trans R0Y.out, heap_set _ R1Y.out, SRY.out.setOther (by omega), HV10.out.set (by omega), HGY.out.setNew (by omega), HVN.out, by have := HAL.out; simp; omega⟩
              case measure => exact measN (by first | rfl | simp) hj1
          · subst h1
            go_wp2_with fail
            clear d0 d1 d2 d3 d4 d5 d6 e0 e1 e2 e3 e4 e5 e6 f0 f1 c0 c1 c2 fR
            clear g0 g1 g2 f2
            refine (str_any (w.heap.size + 1) L s8 _ (SR8.out.setOther HBR.out) HLL.out).mono ?_
            rintro ex w9 ⟨x9, s9, rfl, hrx, hag9, hval9, hgx⟩
            have R09 : Hid (w9.heap[w.heap.size]? = some (.cells #[.int .i64 0, .string ⟨#[]⟩, .int .i64 0, .int .i64 0, (.slice none 0 0), .int .i64 0, .bool false] 26 (0, 0))) := (hgx.block w.heap.size (by rw [set_size]; exact row_lt R08.out) (by simp)).trans ((heap_other _ HN0.out).trans R08.out)
            have R19 : Hid (w9.heap[w.heap.size + 2]? = some (.cells #[.int .i64 1, .string x3, .int .i64 (n4 : Int), .int .i64 (n5 : Int), (.slice pu nu cu), .int .i64 0, .bool false] 26 (0, 0))) := (hgx.block (w.heap.size + 2) (by rw [set_size]; exact row_lt R18.out) (by simp)).trans ((heap_other _ HN2.out).trans R18.out)
            have R29 : Hid (w9.heap[wr.heap.size]? = some (.cells #[.int .i64 2, .int .i64 0, .string ⟨#[]⟩] 52 (0, 0))) := (hgx.block wr.heap.size (by rw [set_size]; exact row_lt R28.out) (by have := HBR.out; simp; omega)).trans (heap_set _ R28.out)
            have SR9 := hid hrx
            have HG9 := hid ((HG8.out.setNew HW2.out).trans hgx)
            have HV9 : Hid (VO w9 (w.heap.size + 3) (.slice pu nu cu) acc) := (HV8.out.set2 HOWN.out).kept (fun q hq hlq => hgx.block q hlq (by simp; omega))
            clear hrx hgx
            obtain ⟨pR, capR, atR, hR1, hR2, hR3, hR4, hR5, hR6⟩ := SR9.out
            have d0 := row_cell (j := 0) R09.out rfl
            have d1 := row_cell (j := 1) R09.out rfl
            have d2 := row_cell (j := 2) R09.out rfl
            have d3 := row_cell (j := 3) R09.out rfl
            have d4 := row_cell (j := 4) R09.out rfl
            have d5 := row_cell (j := 5) R09.out rfl
            have d6 := row_cell (j := 6) R09.out rfl
            have e0 := row_cell (j := 0) R19.out rfl
            have e1 := row_cell (j := 1) R19.out rfl
            have e2 := row_cell (j := 2) R19.out rfl
            have e3 := row_cell (j := 3) R19.out rfl
            have e4 := row_cell (j := 4) R19.out rfl
            have e5 := row_cell (j := 5) R19.out rfl
            have e6 := row_cell (j := 6) R19.out rfl
            have f0 := fun j => row_frozen (j := j) R09.out
            have f1 := fun j => row_frozen (j := j) R19.out
            have c0 := row_cell (j := 0) hR1 rfl
            have c1 := row_cell (j := 1) hR1 rfl
            have c2 := row_cell (j := 2) hR1 rfl
            have fR := fun j => row_frozen (j := j) hR1
            have HAT9 : Hid (atR ≤ L.length ∧ L.drop atR = s9.l) := ⟨hR2, hR3⟩
            clear hR1 hR2 hR3 hR4 hR5 hR6
            have g0 := row_cell (j := 0) R29.out rfl
            have g1 := row_cell (j := 1) R29.out rfl
            have g2 := row_cell (j := 2) R29.out rfl
            have f2 := fun j => row_frozen (j := j) R29.out
            have HVN : Hid (Vg s9 (n6 - (j + 1)) (acc ++ [(⟨2, 0, x9⟩ : Vl)]) (vsR s5)) := by
              have h9 := HVG.out
              rw [show n6 - j = n6 - (j + 1) + 1 by omega] at h9
              exact h9.next ht (vl_ag (f := txS) (fun h => txS_keep h) HAG8.out (fun h0 => by have := HVAL8.out h0; unfold vlS; rw [if_neg (by omega), if_pos this.symm]) hag9) (fun h0 => by
                have h8 := Ag.up (f := txS) (fun h => txS_keep h) hag9 h0
                have := HVAL8.out h8
                unfold vlV
                rw [if_neg (by omega), if_pos this.symm, hval9 h0, HAG8.out.2 h8])
            clear hag9 hval9
            have HVX : Hid (VO (w9.setCell ⟨wr.heap.size, 2, none⟩ (.string x9)) (w.heap.size + 3) (.slice pu nu cu) acc) := (HV9.out.set2 HOWN.out)
            have HRX : Hid (SR (w9.setCell ⟨wr.heap.size, 2, none⟩ (.string x9)) (w.heap.size + 1) L s9) := (SR9.out.setOther HBR.out)
            have HGX : Hid (Gb w (w.heap.size + 1) (w9.setCell ⟨wr.heap.size, 2, none⟩ (.string x9))) := (HG9.out.setNew HW2.out)
            have R0X : Hid ((w9.setCell ⟨wr.heap.size, 2, none⟩ (.string x9)).heap[w.heap.size]? = some (.cells #[.int .i64 0, .string ⟨#[]⟩, .int .i64 0, .int .i64 0, (.slice none 0 0), .int .i64 0, .bool false] 26 (0, 0))) := ((heap_other _ HN0.out).trans R09.out)
            have R1X : Hid ((w9.setCell ⟨wr.heap.size, 2, none⟩ (.string x9)).heap[w.heap.size + 2]? = some (.cells #[.int .i64 1, .string x3, .int .i64 (n4 : Int), .int .i64 (n5 : Int), (.slice pu nu cu), .int .i64 0, .bool false] 26 (0, 0))) := ((heap_other _ HN2.out).trans R19.out)
            have HSX : Hid (w.heap.size + 3 ≤ (w9.setCell ⟨wr.heap.size, 2, none⟩ (.string x9)).heap.size) := by have h9 := HGX.out.size; have h8 := row_lt R1X.out; show _ ≤ _; omega
            go_wp2_with (at_builtin; go_loud (refine wp_pushV (by rfl) _ _ (by rfl) (w9.setCell ⟨wr.heap.size, 2, none⟩ (.string x9)) (w.heap.size + 3) _ acc (by rfl) HVX.out (by rfl) (by first | rfl | simp) ⟨2, 0, x9⟩ (by have := HAL.out; omega) HSX.out ?_); intro v10 w10 hown hbl; have HV10 := hid hown; have R0Y : Hid (w10.heap[w.heap.size]? = some (.cells #[.int .i64 0, .string ⟨#[]⟩, .int .i64 0, .int .i64 0, (.slice none 0 0), .int .i64 0, .bool false] 26 (0, 0))) := (hbl.1.block _ (row_lt R0X.out) (fun e => by have := (World.ownsRow.lt HVX.out _ e.symm).1; omega)).trans R0X.out; have R1Y : Hid (w10.heap[w.heap.size + 2]? = some (.cells #[.int .i64 1, .string x3, .int .i64 (n4 : Int), .int .i64 (n5 : Int), (.slice pu nu cu), .int .i64 0, .bool false] 26 (0, 0))) := (hbl.1.block _ (row_lt R1X.out) (fun e => by have := (World.ownsRow.lt HVX.out _ e.symm).1; omega)).trans R1X.out; have SRY : Hid (SR w10 (w.heap.size + 1) L s9) := HRX.out.kept (fun k hk => hbl.1.block k (Nat.lt_of_le_of_lt hk HRX.out.lt) (fun e => by have := (World.ownsRow.lt HVX.out _ e.symm).1; omega)); have HGY : Hid (Gb w (w.heap.size + 1) w10) := HGX.out.grow hbl (VO.weak HVX.out (by omega)); have y0 := fun j => row_frozen (j := j) R1Y.out; have y4 := row_cell (j := 4) R1Y.out rfl; obtain ⟨pv, nv, cv, hvv⟩ := hown.shape3; subst hvv; clear hown hbl)
            go_roundw
            case rel => exact ⟨j + 1, s9, acc ++ [(⟨2, 0, x9⟩ : Vl)], pv, nv, cv, by go_num, by omega, (heap_other _ (by omega)).trans R0Y.out, heap_set _ R1Y.out, SRY.out.setOther (by omega), HV10.out.set (by omega), HGY.out.setNew (by omega), HVN.out, by have := HAL.out; simp; omega⟩
            case measure => exact measN (by first | rfl | simp) hj1
          · have hb1 : ((n8 : Int) == 1) = false := by simp; omega
            have hb2 : ((n8 : Int) == 2) = false := by simp; omega
            go_wp2_with fail
            clear d0 d1 d2 d3 d4 d5 d6 e0 e1 e2 e3 e4 e5 e6 f0 f1 c0 c1 c2 fR
            clear g0 g1 g2 f2
            refine (stop_any (w.heap.size + 1) L s8 4 _ (SR8.out.setOther HBR.out)).mono ?_
            rintro ex w9 ⟨rfl, hrx, hgx⟩
            obtain ⟨s9, hs9⟩ : ∃ x, rfx s8 4 = x := ⟨_, rfl⟩
            rw [hs9] at hrx
            have R09 : Hid (w9.heap[w.heap.size]? = some (.cells #[.int .i64 0, .string ⟨#[]⟩, .int .i64 0, .int .i64 0, (.slice none 0 0), .int .i64 0, .bool false] 26 (0, 0))) := (hgx.block w.heap.size (by rw [set_size]; exact row_lt R08.out) (by simp)).trans ((heap_other _ HN0.out).trans R08.out)
            have R19 : Hid (w9.heap[w.heap.size + 2]? = some (.cells #[.int .i64 1, .string x3, .int .i64 (n4 : Int), .int .i64 (n5 : Int), (.slice pu nu cu), .int .i64 0, .bool false] 26 (0, 0))) := (hgx.block (w.heap.size + 2) (by rw [set_size]; exact row_lt R18.out) (by simp)).trans ((heap_other _ HN2.out).trans R18.out)
            have R29 : Hid (w9.heap[wr.heap.size]? = some (.cells #[.int .i64 (n8 : Int), .int .i64 0, .string ⟨#[]⟩] 52 (0, 0))) := (hgx.block wr.heap.size (by rw [set_size]; exact row_lt R28.out) (by have := HBR.out; simp; omega)).trans (heap_set _ R28.out)
            have SR9 := hid hrx
            have HG9 := hid ((HG8.out.setNew HW2.out).trans hgx)
            have HV9 : Hid (VO w9 (w.heap.size + 3) (.slice pu nu cu) acc) := (HV8.out.set2 HOWN.out).kept (fun q hq hlq => hgx.block q hlq (by simp; omega))
            clear hrx hgx
            obtain ⟨pR, capR, atR, hR1, hR2, hR3, hR4, hR5, hR6⟩ := SR9.out
            have d0 := row_cell (j := 0) R09.out rfl
            have d1 := row_cell (j := 1) R09.out rfl
            have d2 := row_cell (j := 2) R09.out rfl
            have d3 := row_cell (j := 3) R09.out rfl
            have d4 := row_cell (j := 4) R09.out rfl
            have d5 := row_cell (j := 5) R09.out rfl
            have d6 := row_cell (j := 6) R09.out rfl
            have e0 := row_cell (j := 0) R19.out rfl
            have e1 := row_cell (j := 1) R19.out rfl
            have e2 := row_cell (j := 2) R19.out rfl
            have e3 := row_cell (j := 3) R19.out rfl
            have e4 := row_cell (j := 4) R19.out rfl
            have e5 := row_cell (j := 5) R19.out rfl
            have e6 := row_cell (j := 6) R19.out rfl
            have f0 := fun j => row_frozen (j := j) R09.out
            have f1 := fun j => row_frozen (j := j) R19.out
            have c0 := row_cell (j := 0) hR1 rfl
            have c1 := row_cell (j := 1) hR1 rfl
            have c2 := row_cell (j := 2) hR1 rfl
            have fR := fun j => row_frozen (j := j) hR1
            have HAT9 : Hid (atR ≤ L.length ∧ L.drop atR = s9.l) := ⟨hR2, hR3⟩
            clear hR1 hR2 hR3 hR4 hR5 hR6
            have g0 := row_cell (j := 0) R29.out rfl
            have g1 := row_cell (j := 1) R29.out rfl
            have g2 := row_cell (j := 2) R29.out rfl
            have f2 := fun j => row_frozen (j := j) R29.out
            have HVN : Hid (Vg s9 (n6 - (j + 1)) (acc ++ [(⟨(n8 : Int), 0, ⟨#[]⟩⟩ : Vl)]) (vsR s5)) := by
              have h9 := HVG.out
              rw [show n6 - j = n6 - (j + 1) + 1 by omega] at h9
              rw [← hs9]
              exact h9.next ht (vl_ag (f := fun t => rfx t 4) (fun h => rfx_keep h 4) HAG8.out (fun h0 => by have := HVAL8.out h0; unfold vlS; rw [if_neg (by omega), if_neg (by omega)]) (Ag.refl _)) (fun h0 => absurd h0 (rfx_ne _ (by decide)))
            clear hs9
            have HVX : Hid (VO w9 (w.heap.size + 3) (.slice pu nu cu) acc) := HV9.out
            have HRX : Hid (SR w9 (w.heap.size + 1) L s9) := SR9.out
            have HGX : Hid (Gb w (w.heap.size + 1) w9) := HG9.out
            have R0X : Hid (w9.heap[w.heap.size]? = some (.cells #[.int .i64 0, .string ⟨#[]⟩, .int .i64 0, .int .i64 0, (.slice none 0 0), .int .i64 0, .bool false] 26 (0, 0))) := R09.out
            have R1X : Hid (w9.heap[w.heap.size + 2]? = some (.cells #[.int .i64 1, .string x3, .int .i64 (n4 : Int), .int .i64 (n5 : Int), (.slice pu nu cu), .int .i64 0, .bool false] 26 (0, 0))) := R19.out
            have HSX : Hid (w.heap.size + 3 ≤ w9.heap.size) := by have h9 := HGX.out.size; have h8 := row_lt R1X.out; show _ ≤ _; omega
            go_wp2_with (at_builtin; go_loud (refine wp_pushV (by rfl) _ _ (by rfl) w9 (w.heap.size + 3) _ acc (by rfl) HVX.out (by rfl) (by first | rfl | simp) ⟨(n8 : Int), 0, ⟨#[]⟩⟩ (by have := HAL.out; omega) HSX.out ?_); intro v10 w10 hown hbl; have HV10 := hid hown; have R0Y : Hid (w10.heap[w.heap.size]? = some (.cells #[.int .i64 0, .string ⟨#[]⟩, .int .i64 0, .int .i64 0, (.slice none 0 0), .int .i64 0, .bool false] 26 (0, 0))) := (hbl.1.block _ (row_lt R0X.out) (fun e => by have := (World.ownsRow.lt HVX.out _ e.symm).1; omega)).trans R0X.out; have R1Y : Hid (w10.heap[w.heap.size + 2]? = some (.cells #[.int .i64 1, .string x3, .int .i64 (n4 : Int), .int .i64 (n5 : Int), (.slice pu nu cu), .int .i64 0, .bool false] 26 (0, 0))) := (hbl.1.block _ (row_lt R1X.out) (fun e => by have := (World.ownsRow.lt HVX.out _ e.symm).1; omega)).trans R1X.out; have SRY : Hid (SR w10 (w.heap.size + 1) L s9) := HRX.out.kept (fun k hk => hbl.1.block k (Nat.lt_of_le_of_lt hk HRX.out.lt) (fun e => by have := (World.ownsRow.lt HVX.out _ e.symm).1; omega)); have HGY : Hid (Gb w (w.heap.size + 1) w10) := HGX.out.grow hbl (VO.weak HVX.out (by omega)); have y0 := fun j => row_frozen (j := j) R1Y.out; have y4 := row_cell (j := 4) R1Y.out rfl; obtain ⟨pv, nv, cv, hvv⟩ := hown.shape3; subst hvv; clear hown hbl)
            go_roundw
            case rel => exact ⟨j + 1, s9, acc ++ [(⟨(n8 : Int), 0, ⟨#[]⟩⟩ : Vl)], pv, nv, cv, by go_num, by omega, (heap_other _ (by omega)).trans R0Y.out, heap_set _ R1Y.out, SRY.out.setOther (by omega), HV10.out.set (by omega), HGY.out.setNew (by omega), HVN.out, by have := HAL.out; simp; omega⟩
            case measure => exact measN (by first | rfl | simp) hj1
        · have heb0 : (s7.e == 0) = false := by simpa using ht
          obtain ⟨hx, hacc⟩ := HVG.out.ag' ht
          have HAG := hid (HF.out s7 hx)
          have HOV := hid (HOVF.out s7 acc hx hacc)
          clear hx hacc HF HOVF HVS HVG HAL HAG2 HVAL2
          have hRb : w.heap.size + 1 ≠ w.heap.size + 2 := by omega
          have he : s7.e ≠ 0 := ht
          · have heb : (s7.e != 0) = true := by simpa using he
            have hec : (s7.e == 0) = false := by simpa using he
            have HDC : Hid (dcR L = (zop, s7.e)) := dc_a1 HLL.out HAG.out he
            go_wp2_with fail
            go_region
            all_goals
              try go_wp2
            all_goals
              refine ret2O (b := w.heap.size) (o := zop) (u := (.slice none 0 0)) 2 3 Try.results15 (by rfl) (drew_row (set7_row R07.out)) (by rfl) ⟨(.slice none 0 0), ?_, ?_, ?_⟩
              · rw [HDC.out]; rfl
              · rw [HDC.out]; exact VO.nil _ _
              · exact ((HG7.out.set7 (by omega)).trans (Gb.of_below (Below.refl _ _).drew)).below (by omega) (Nat.le_refl _)
      · have hji : ¬ (j : Int) < n6 := by omega
        obtain rfl : j = n6 := by omega
        have hvg := HVG.out
        rw [Nat.sub_self] at hvg
        obtain ⟨hx, hacc⟩ := hvg.ag
        have HAG := hid (HF.out s7 hx)
        have HOV := hid (HOVF.out s7 acc hx hacc)
        clear hx hacc hvg HF HOVF HVS HVG HAL HAG2 HVAL2
        have hRb : w.heap.size + 1 ≠ w.heap.size + 2 := by omega
        by_cases he : s7.e = 0
        · rw [he] at c2
          by_cases hat : atR < L.length
          · have hati : (atR : Int) < (L.length : Int) := by omega
            have HDC : Hid (dcR L = (zop, 4)) := dc_a2 HLL.out HAG.out he (by rw [← HAT.out.2]; intro q; rw [List.drop_eq_nil_iff] at q; omega)
            go_wp2_with fail
            go_region
            all_goals
              try go_wp2
            all_goals
              refine ret2O (b := w.heap.size) (o := zop) (u := (.slice none 0 0)) 2 3 Try.results15 (by rfl) (drew_row (set7_row ((heap_other _ (by omega)).trans R07.out))) (by rfl) ⟨(.slice none 0 0), ?_, ?_, ?_⟩
              · rw [HDC.out]; rfl
              · rw [HDC.out]; exact VO.nil _ _
              · exact (((HG7.out.trans (Gb.set _ _ _ _)).set7 (by omega)).trans (Gb.of_below (Below.refl _ _).drew)).below (by omega) (Nat.le_refl _)
          · have hati : ¬ (atR : Int) < (L.length : Int) := by omega
            have HDC0 := hid (dc_a3 HLL.out HAG.out he (by rw [← HAT.out.2, List.drop_eq_nil_iff]; omega))
            rw [← HOV.out he] at HDC0
            have hva : ValsAt wr (.slice pu nu cu) acc := HV7.out.va
            have HWF := hid (wfault_any ⟨1, x3, (n4 : Int), (n5 : Int), acc, 0, false⟩ (.slice pu nu cu) _ hva)
            obtain ⟨z, hz⟩ : ∃ z, ochk ⟨1, x3, (n4 : Int), (n5 : Int), acc, 0, false⟩ = z := ⟨_, rfl⟩
            rw [hz] at HDC0 HWF
            unfold opv at HWF
            simp only at HWF
            clear hz hva
            go_wp2_with fail
            refine HWF.out.mono ?_
            rintro ey wz ⟨rfl, hbz⟩
            have R0z : Hid (wz.heap[w.heap.size]? = some (.cells #[.int .i64 0, .string ⟨#[]⟩, .int .i64 0, .int .i64 0, (.slice none 0 0), .int .i64 0, .bool false] 26 (0, 0))) := (hbz.block _ (row_lt R07.out)).trans R07.out
            have R1z : Hid (wz.heap[w.heap.size + 2]? = some (.cells #[.int .i64 1, .string x3, .int .i64 (n4 : Int), .int .i64 (n5 : Int), (.slice pu nu cu), .int .i64 0, .bool false] 26 (0, 0))) := (hbz.block _ (row_lt R17.out)).trans R17.out
            have SRz : Hid (SR wz (w.heap.size + 1) L s7) := (SR7.out).kept (fun k hk => hbz.block k (Nat.lt_of_le_of_lt hk (SR7.out).lt))
            have HGz := hid (HG7.out.trans (Gb.of_below hbz))
            have HVz : Hid (VO wz (w.heap.size + 3) (.slice pu nu cu) acc) := (HV7.out).kept (fun k _ hk => hbz.block k hk)
            clear hbz HWF
            clear d0 d1 d2 d3 d4 d5 d6 e0 e1 e2 e3 e4 e5 e6 f0 f1 c0 c1 c2 fR
            obtain ⟨pR, capR, atR, hR1, hR2, hR3, hR4, hR5, hR6⟩ := SRz.out
            rw [he] at hR1
            have d0 := row_cell (j := 0) R0z.out rfl
            have d1 := row_cell (j := 1) R0z.out rfl
            have d2 := row_cell (j := 2) R0z.out rfl
            have d3 := row_cell (j := 3) R0z.out rfl
            have d4 := row_cell (j := 4) R0z.out rfl
            have d5 := row_cell (j := 5) R0z.out rfl
            have d6 := row_cell (j := 6) R0z.out rfl
            have e0 := row_cell (j := 0) R1z.out rfl
            have e1 := row_cell (j := 1) R1z.out rfl
            have e2 := row_cell (j := 2) R1z.out rfl
            have e3 := row_cell (j := 3) R1z.out rfl
            have e4 := row_cell (j := 4) R1z.out rfl
            have e5 := row_cell (j := 5) R1z.out rfl
            have e6 := row_cell (j := 6) R1z.out rfl
            have f0 := fun j => row_frozen (j := j) R0z.out
            have f1 := fun j => row_frozen (j := j) R1z.out
            have c0 := row_cell (j := 0) hR1 rfl
            have c1 := row_cell (j := 1) hR1 rfl
            have c2 := row_cell (j := 2) hR1 rfl
            have fR := fun j => row_frozen (j := j) hR1
            clear hR1 hR2 hR3 hR4 hR5 hR6
            by_cases hz0 : z = 0
            · subst hz0
              have HDC : Hid (dcR L = (⟨1, x3, (n4 : Int), (n5 : Int), acc, 0, false⟩, 0)) := by rw [HDC0.out]; rfl
              clear HDC0
              go_wp2
              refine ret2O (b := w.heap.size) (o := ⟨1, x3, (n4 : Int), (n5 : Int), acc, 0, false⟩) (u := (.slice pu nu cu)) 2 3 Try.results15 (by rfl) (set7_row ((heap_other _ (by omega)).trans R0z.out)) (by rfl) ⟨(.slice pu nu cu), ?_, ?_, ?_⟩
              · rw [HDC.out]; rfl
              · rw [HDC.out]; exact (((HVz.out.set (by omega)).set7 (by omega)).weak (by omega))
              · exact ((HGz.out.trans (Gb.set _ _ _ _)).set7 (by omega)).below (by omega) (Nat.le_refl _)
            · have hzb : (z != 0) = true := by simpa using hz0
              have hzc : (z == 0) = false := by simpa using hz0
              have HDC : Hid (dcR L = (zop, z)) := by rw [HDC0.out, if_pos hz0]; rfl
              clear HDC0
              go_wp2_with fail
              go_region
              all_goals
                try go_wp2
              all_goals
                refine ret2O (b := w.heap.size) (o := zop) (u := (.slice none 0 0)) 2 3 Try.results15 (by rfl) (drew_row (set7_row ((heap_other _ (by omega)).trans R0z.out))) (by rfl) ⟨(.slice none 0 0), ?_, ?_, ?_⟩
                · rw [HDC.out]; rfl
                · rw [HDC.out]; exact VO.nil _ _
                · exact (((HGz.out.trans (Gb.set _ _ _ _)).set7 (by omega)).trans (Gb.of_below (Below.refl _ _).drew)).below (by omega) (Nat.le_refl _)
        · have heb : (s7.e != 0) = true := by simpa using he
          have hec : (s7.e == 0) = false := by simpa using he
          have HDC : Hid (dcR L = (zop, s7.e)) := dc_a1 HLL.out HAG.out he
          go_wp2_with fail
          go_region
          all_goals
            try go_wp2
          all_goals
            refine ret2O (b := w.heap.size) (o := zop) (u := (.slice none 0 0)) 2 3 Try.results15 (by rfl) (drew_row (set7_row R07.out)) (by rfl) ⟨(.slice none 0 0), ?_, ?_, ?_⟩
            · rw [HDC.out]; rfl
            · rw [HDC.out]; exact VO.nil _ _
            · exact ((HG7.out.set7 (by omega)).trans (Gb.of_below (Below.refl _ _).drew)).below (by omega) (Nat.le_refl _)
end Go.Proofs.Ytnfjdkaemgcllaa
