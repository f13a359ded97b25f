/-
  The document's scan of bytes: the first byte.
-/
import Derived.Test.YtnfjdkaemgcllaaYe
namespace Go.Proofs.Ytnfjdkaemgcllaa
open Go.ChangeShapes Go.WideShapes Go.ChangeAt Go.RowKit Go.Maps
set_option linter.unusedVariables false
set_option linter.unusedSimpArgs false
set_option maxRecDepth 20000
set_option maxHeartbeats 8000000 in
theorem oneF_any (R : Nat) (L : List UInt8) (s : Sx) (w : World) (h : SR w R L s) (he0 : s.e = 0) (hL : L.length ≤ 20000) :
    Calls Try.prog 39 #[.pointer (some ⟨R, 0, none⟩)] w fun e w' => ∃ (n : Nat) (s' : Sx), e = .returned (.int .i64 n) ∧ n < 256 ∧ SR w' R L s' ∧ Ag s' (smS s) ∧ n = smV s ∧ Gb w R w' := by
  have HH := hid h
  have HST := hid (stop_any R L s 5 w h)
  obtain ⟨p, cap, at_, h1, h2, h3, h5, h6, h4⟩ := h
  have H1 := hid h1
  obtain ⟨l, e⟩ := s
  simp only at *
  by_cases he : e = 0
  · subst he
    obtain ⟨n, hn⟩ : ∃ n, L.length = n := ⟨_, rfl⟩
    have h1' := h1
    rw [hn] at h1'
    have c0 := row_cell (j := 0) h1' rfl
    have c1 := row_cell (j := 1) h1' rfl
    have c2 := row_cell (j := 2) h1' rfl
    have f1 := row_frozen (j := 1) h1'
    have f2 := row_frozen (j := 2) h1'
    by_cases hat : at_ < n
    · obtain ⟨g, off, rfl, hg, hc⟩ := h4 (by omega)
      have hatL : at_ < L.length := by omega
      have b0 := hc at_ hatL
      obtain ⟨q, hq⟩ : ∃ q, L[at_] = q := ⟨_, rfl⟩
      have hdl : l = q :: L.drop (at_ + 1) := by rw [← h3, ← hq]; exact List.drop_eq_getElem_cons hatL
      rw [hq] at b0
      have ha1 : ¬ (n : Int) ≤ at_ := by omega
      have hw1 : wrap64 ((at_ : Int) + 1) = (at_ : Int) + 1 := by unfold wrap64; omega
      have ha3 : (at_ : Int) < n := by omega
      have ha4 : (0 : Int) ≤ at_ := by omega
      have hne : g ≠ R := by omega
      have hqn := q.toNat_lt
      have HON := hid (HH.out.on H1.out (k := at_ + 1) (by omega) ((at_ : Int) + 1) (by omega))
      have HDL := hid hdl
      have HQ := hid hqn
      have hwq : wrap64 (q.toNat : Int) = (q.toNat : Int) := by unfold wrap64; omega
      clear h1 h1' h4 hc hq hdl HST h2 h3 hn hqn
      go_enter Try.func39, Try.ntmps39
      go_wp2_with fail
      go_quiet (fail)
      go_wp2_with fail
      go_quiet (fail)
      go_wp2
      go_ret
      refine ⟨q.toNat, ⟨L.drop (at_ + 1), 0⟩, ret_int hwq, HQ.out, SR.drewN (SR.on (SR.drewN HH.out) H1.out (by omega) _ (by omega)), ?_, ?_, ((Gb.refl w R).drewN.trans (Gb.set _ _ _ _)).drewN⟩
      · rw [HDL.out]; exact Ag.refl _
      · rw [HDL.out]; rfl
    · have ha1 : (n : Int) ≤ at_ := by omega
      have hatn : at_ = n := by omega
      have HL0 : Hid (l = []) := by show l = []; rw [← h3, List.drop_eq_nil_iff]; omega
      clear h1 h1' h4 h2 h3 hn
      go_enter Try.func39, Try.ntmps39
      go_wp2_with fail
      go_quiet (fail)
      go_wp2_with fail
      refine (stop_any R L _ 5 _ (SR.drewN HH.out)).mono ?_
      rintro e2 w2 ⟨rfl, hr, hg⟩
      have HR2 := hid hr
      have HG2 := hid ((Gb.refl w R).drewN.trans hg)
      clear hr hg c0 c1 c2 f1 f2
      go_wp2
      go_ret
      refine ⟨0, _, rfl, by omega, HR2.out, ?_, ?_, HG2.out⟩
      · rw [HL0.out]; exact Ag.refl _
      · rw [HL0.out]; rfl
  · exact absurd he0 he
end Go.Proofs.Ytnfjdkaemgcllaa
