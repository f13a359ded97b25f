/-
  The document's scan of bytes: stop, one.
-/
import Derived.Test.YtepgkemnpcadiaaXa
namespace Go.Proofs.Ytepgkemnpcadiaa
open Go.ChangeShapes Go.WideShapes Go.ChangeAt Go.RowKit Go.Maps
set_option linter.unusedVariables false
set_option linter.unusedSimpArgs false
set_option maxRecDepth 20000
/-- A scan in block R over the bytes L: what is left and what was wrong are s. -/
def SR (w : World) (R : Nat) (L : List UInt8) (s : Sx) : Prop :=
  ∃ (p : Option Addr) (cap at_ : Nat), w.heap[R]? = some (.cells #[.slice p L.length cap, .int .i64 at_, .int .i64 s.e] 86 (0, 0)) ∧ at_ ≤ L.length ∧ L.drop at_ = s.l ∧ L.length ≤ cap ∧ cap ≤ maxLen ∧ (0 < L.length → ∃ g off, p = some ⟨g, off, none⟩ ∧ g < R ∧ ∀ j (hj : j < L.length), w.cell? ⟨g, off + j, none⟩ = some (.int .u8 (L[j].toNat : Int)))
theorem SR.kept {w w' : World} {R : Nat} {L : List UInt8} {s : Sx} (h : SR w R L s) (hb : ∀ k, k ≤ R → w'.heap[k]? = w.heap[k]?) : SR w' R L s := by
  obtain ⟨p, cap, at_, h1, h2, h3, h5, h6, h4⟩ := h
  refine ⟨p, cap, at_, (hb R (Nat.le_refl _)).trans h1, h2, h3, h5, h6, fun c => ?_⟩
  obtain ⟨g, off, hp, hg, hc⟩ := h4 c
  refine ⟨g, off, hp, hg, fun j hj => ?_⟩
  rw [World.cell?_of_block (w := w) (w' := w') (a := ⟨g, off + j, none⟩) (hb g (by omega))]
  exact hc j hj
theorem SR.lt {w : World} {R : Nat} {L : List UInt8} {s : Sx} (h : SR w R L s) : R < w.heap.size := by
  obtain ⟨p, cap, at_, h1, _⟩ := h
  exact row_lt h1
theorem SR.setOther {w : World} {R b i : Nat} {L : List UInt8} {s : Sx} {v : Value} (h : SR w R L s) (hb : R < b) : SR (w.setCell ⟨b, i, none⟩ v) R L s := h.kept (fun k hk => heap_other v (by omega))
theorem SR.alloc {w : World} {R : Nat} {L : List UInt8} {s : Sx} (h : SR w R L s) (o : Obj) : SR (w.alloc o) R L s := h.kept (fun k hk => Below.heap_alloc _ _ _ (by have := h.lt; omega))
theorem SR.wrong {w : World} {R : Nat} {L : List UInt8} {s : Sx} (h : SR w R L s) (x : Int) : SR (w.setCell ⟨R, 2, none⟩ (.int .i64 x)) R L ⟨s.l, x⟩ := by
  obtain ⟨p, cap, at_, h1, h2, h3, h5, h6, h4⟩ := h
  refine ⟨p, cap, at_, by rw [heap_set _ h1]; rfl, h2, h3, h5, h6, fun c => ?_⟩
  obtain ⟨g, off, hp, hg, hc⟩ := h4 c
  refine ⟨g, off, hp, hg, fun j hj => ?_⟩
  rw [World.cell?_of_block (w := w) (a := ⟨g, off + j, none⟩) (heap_other _ (by show g ≠ R; omega))]
  exact hc j hj
/-- It goes on to a place further on. -/
theorem SR.on {w : World} {R at_ cap k : Nat} {p : Option Addr} {L : List UInt8} {s : Sx} (h : SR w R L s) (hr : w.heap[R]? = some (.cells #[.slice p L.length cap, .int .i64 at_, .int .i64 s.e] 86 (0, 0))) (hk : k ≤ L.length) (y : Int) (hy : y = k) : SR (w.setCell ⟨R, 1, none⟩ (.int .i64 y)) R L ⟨L.drop k, s.e⟩ := by
  subst hy
  obtain ⟨p', cap', at2, h1, h2, h3, h5, h6, h4⟩ := h
  refine ⟨p', cap', k, by rw [heap_set _ h1]; rfl, hk, rfl, h5, h6, fun c => ?_⟩
  obtain ⟨g, off, hp, hg, hc⟩ := h4 c
  refine ⟨g, off, hp, hg, fun j hj => ?_⟩
  rw [World.cell?_of_block (w := w) (a := ⟨g, off + j, none⟩) (heap_other _ (by show g ≠ R; omega))]
  exact hc j hj
/-- As far as it goes well it is as the other one; what is wrong is the same. -/
def Ag (s t : Sx) : Prop := s.e = t.e ∧ (s.e = 0 → s = t)
theorem Ag.refl (s : Sx) : Ag s s := ⟨rfl, fun _ => rfl⟩
theorem stop_any (R : Nat) (L : List UInt8) (s : Sx) (x : Int) (w : World) (h : SR w R L s) :
    Calls Try.prog 57 #[.pointer (some ⟨R, 0, none⟩), .int .i64 x] w fun e w' => e = .returned (.tuple #[]) ∧ SR w' R L (rfx s x) ∧ Gb w R w' := by
  have HH := hid h
  obtain ⟨p, cap, at_, h1, _⟩ := h
  have c2 := row_cell (j := 2) h1 rfl
  have f2 := row_frozen (j := 2) h1
  clear h1
  obtain ⟨l, e⟩ := s
  simp only at c2
  by_cases he : e = 0
  · subst he
    go_enter Try.func57, Try.ntmps57
    go_wp2
    go_returns
    exact ⟨rfl, by unfold rfx; rw [if_pos rfl]; exact HH.out.wrong x, Gb.set _ _ _ _⟩
  · have heb : (e == 0) = false := by simpa using he
    go_enter Try.func57, Try.ntmps57
    go_wp2
    go_returns
    exact ⟨rfl, by unfold rfx; rw [if_neg he]; exact HH.out, Gb.refl _ _⟩
theorem SR.drewN {w : World} {R n : Nat} {L : List UInt8} {s : Sx} (h : SR w R L s) : SR (w.drewN n) R L s := h.kept (fun _ _ => rfl)
theorem Gb.drewN {w w' : World} {R n : Nat} (h : Gb w R w') : Gb w R (w'.drewN n) := ⟨h.os, h.tape, h.output, h.size, h.block⟩
set_option maxHeartbeats 8000000 in
theorem one_any (R : Nat) (L : List UInt8) (s : Sx) (w : World) (h : SR w R L s) (hL : L.length ≤ 20000) :
    Calls Try.prog 55 #[.pointer (some ⟨R, 0, none⟩)] w fun e w' => ∃ (n : Nat) (s' : Sx), e = .returned (.int .i64 n) ∧ n < 256 ∧ SR w' R L s' ∧ Ag s' (smS s) ∧ (s'.e = 0 → n = smV s) ∧ Gb w R w' := by
  have HH := hid h
  have HST := hid (stop_any R L s 5 w h)
  obtain ⟨p, cap, at_, h1, h2, h3, h5, h6, h4⟩ := h
  have H1 := hid h1
  obtain ⟨l, e⟩ := s
  simp only at *
  by_cases he : e = 0
  · subst he
    obtain ⟨n, hn⟩ : ∃ n, L.length = n := ⟨_, rfl⟩
    have h1' := h1
    rw [hn] at h1'
    have c0 := row_cell (j := 0) h1' rfl
    have c1 := row_cell (j := 1) h1' rfl
    have c2 := row_cell (j := 2) h1' rfl
    have f1 := row_frozen (j := 1) h1'
    have f2 := row_frozen (j := 2) h1'
    by_cases hat : at_ < n
    · obtain ⟨g, off, rfl, hg, hc⟩ := h4 (by omega)
      have hatL : at_ < L.length := by omega
      have b0 := hc at_ hatL
      obtain ⟨q, hq⟩ : ∃ q, L[at_] = q := ⟨_, rfl⟩
      have hdl : l = q :: L.drop (at_ + 1) := by rw [← h3, ← hq]; exact List.drop_eq_getElem_cons hatL
      rw [hq] at b0
      have ha1 : ¬ (n : Int) ≤ at_ := by omega
      have hw1 : wrap64 ((at_ : Int) + 1) = (at_ : Int) + 1 := by unfold wrap64; omega
      have ha3 : (at_ : Int) < n := by omega
      have ha4 : (0 : Int) ≤ at_ := by omega
      have hne : g ≠ R := by omega
      have hqn := q.toNat_lt
      have HON := hid (HH.out.on H1.out (k := at_ + 1) (by omega) ((at_ : Int) + 1) (by omega))
      have HDL := hid hdl
      have HQ := hid hqn
      have hwq : wrap64 (q.toNat : Int) = (q.toNat : Int) := by unfold wrap64; omega
      clear h1 h1' h4 hc hq hdl HST h2 h3 hn hqn
      go_enter Try.func55, Try.ntmps55
      go_wp2_with fail
      go_quiet (fail)
      go_wp2_with fail
      go_quiet (fail)
      go_wp2
      go_ret
      refine ⟨q.toNat, ⟨L.drop (at_ + 1), 0⟩, ret_int hwq, HQ.out, SR.drewN (SR.on (SR.drewN HH.out) H1.out (by omega) _ (by omega)), ?_, ?_, ((Gb.refl w R).drewN.trans (Gb.set _ _ _ _)).drewN⟩
      · rw [HDL.out]; exact Ag.refl _
      · rw [HDL.out]; exact fun _ => rfl
    · have ha1 : (n : Int) ≤ at_ := by omega
      have hatn : at_ = n := by omega
      have HL0 : Hid (l = []) := by show l = []; rw [← h3, List.drop_eq_nil_iff]; omega
      clear h1 h1' h4 h2 h3 hn
      go_enter Try.func55, Try.ntmps55
      go_wp2_with fail
      go_quiet (fail)
      go_wp2_with fail
      refine (stop_any R L _ 5 _ (SR.drewN HH.out)).mono ?_
      rintro e2 w2 ⟨rfl, hr, hg⟩
      have HR2 := hid hr
      have HG2 := hid ((Gb.refl w R).drewN.trans hg)
      clear hr hg c0 c1 c2 f1 f2
      go_wp2
      go_ret
      refine ⟨0, _, rfl, by omega, HR2.out, ?_, ?_, HG2.out⟩
      · rw [HL0.out]; exact Ag.refl _
      · rw [HL0.out]; exact fun _ => rfl
  · have heb : (e != 0) = true := by simpa using he
    have c2 := row_cell (j := 2) h1 rfl
    clear h1 h4
    go_enter Try.func55, Try.ntmps55
    go_wp2
    go_ret
    exact ⟨0, ⟨l, e⟩, rfl, by omega, HH.out, ⟨(smS_keep (s := ⟨l, e⟩) he).symm, fun h0 => absurd h0 he⟩, fun h0 => absurd h0 he, Gb.refl _ _⟩
end Go.Proofs.Ytepgkemnpcadiaa
