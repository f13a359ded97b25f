/-
  The document's scan of bytes: str.
-/
import Derived.Test.YtepgkemnpcadiaaYb
namespace Go.Proofs.Ytepgkemnpcadiaa
open Go.ChangeShapes Go.WideShapes Go.ChangeAt Go.RowKit Go.Maps
set_option linter.unusedVariables false
set_option linter.unusedSimpArgs false
set_option maxRecDepth 20000
theorem smS_len (s : Sx) : (smS s).l.length ≤ s.l.length := by
  obtain ⟨l, e⟩ := s
  match l with
  | [] => unfold smS rfx; simp only; split <;> simp
  | c :: r => simp [smS]
set_option maxHeartbeats 16000000 in
theorem str_any (R : Nat) (L : List UInt8) (s : Sx) (w : World) (h : SR w R L s) (hL : L.length ≤ 20000) :
    Calls Try.prog 58 #[.pointer (some ⟨R, 0, none⟩)] w fun e w' => ∃ (x : ByteArray) (s' : Sx), e = .returned (.string x) ∧ SR w' R L s' ∧ Ag s' (txS s) ∧ (s'.e = 0 → x = txV s) ∧ Gb w R w' := by
  have HO := hid (one_any R L s w h hL)
  have HLL := hid hL
  clear h hL
  go_enter Try.func58, Try.ntmps58
  go_wp2_with fail
  refine HO.out.mono ?_
  rintro e2 w2 ⟨c, s1, rfl, hc256, hr, ⟨ha1, ha2⟩, hcv, hg⟩
  have HR2 := hid hr
  have HG2 := hid hg
  obtain ⟨p, cap, at_, h1, h2, h3, h5, h6, h4⟩ := hr
  have H1 := hid h1
  clear hg
  obtain ⟨l1, e1⟩ := s1
  simp only at h1 h3 ha1 ha2 hcv
  by_cases he : e1 = 0
  · subst he
    have HE : Hid ((⟨l1, 0⟩ : Sx) = smS s) := ha2 rfl
    have HC : Hid (c = smV s) := hcv rfl
    have HTS : Hid (txS s = if l1.length < c then rfx ⟨l1, 0⟩ 5 else ⟨l1.drop c, 0⟩) := by rw [HE.out, HC.out]; show (if _ then _ else _) = _; rw [← HE.out]
    have HTV : Hid (txV s = if l1.length < c then tx [] else tx (l1.take c)) := by rw [HC.out]; show (if _ then _ else _) = _; rw [← HE.out]
    obtain ⟨n, hn⟩ : ∃ n, L.length = n := ⟨_, rfl⟩
    have hl1 : l1.length = n - at_ := by rw [← h3, List.length_drop, hn]
    have hn20 : n ≤ 20000 := by have := HLL.out; omega
    rw [hn] at h1
    have c0 := row_cell (j := 0) h1 rfl
    have c1 := row_cell (j := 1) h1 rfl
    have c2 := row_cell (j := 2) h1 rfl
    have f1 := row_frozen (j := 1) h1
    have hw1 : wrap64 ((at_ : Int) + c) = (at_ : Int) + c := by unfold wrap64; omega
    clear ha1 ha2 hcv h1
    by_cases hbig : n - at_ < c
    · have hbi : (n : Int) < (at_ : Int) + c := by omega
      have HTS2 : Hid (txS s = rfx ⟨l1, 0⟩ 5) := by rw [HTS.out, if_pos (by rw [hl1]; exact hbig)]; rfl
      clear h2 h3 h4 h5 h6 hn hl1
      go_wp2_with fail
      go_quiet (fail)
      go_wp2_with fail
      refine (stop_any R L _ 5 _ (SR.drewN HR2.out)).mono ?_
      rintro e3 w3 ⟨rfl, hr3, hg3⟩
      have HR3 := hid hr3
      have HG3 := hid (HG2.out.drewN.trans hg3)
      clear hr3 hg3 c0 c1 c2 f1
      go_wp2
      go_ret
      exact ⟨_, _, rfl, HR3.out, by rw [HTS2.out]; exact Ag.refl _, fun h0 => absurd h0 (rfx_ne _ (by decide)), HG3.out⟩
    · have hbi : ¬ (n : Int) < (at_ : Int) + c := by omega
      have HTS2 : Hid (txS s = ⟨l1.drop c, 0⟩) := by rw [HTS.out, if_neg (by rw [hl1]; exact hbig)]; rfl
      have HTV2 : Hid (txV s = tx (l1.take c)) := by rw [HTV.out, if_neg (by rw [hl1]; exact hbig)]; rfl
      have hdd : L.drop (at_ + c) = l1.drop c := by rw [← h3, List.drop_drop]
      have HDD := hid hdd
      have HRN : Hid (∀ m, SR ((w2.drewN m).setCell ⟨R, 1, none⟩ (.int .i64 ((at_ : Int) + c))) R L ⟨l1.drop c, 0⟩) := fun m => by
        have := SR.on (HR2.out.drewN (n := m)) H1.out (k := at_ + c) (by omega) ((at_ : Int) + c) (by omega)
        rw [hdd] at this
        exact this
      by_cases hn0 : n = 0
      · subst hn0
        obtain rfl : c = 0 := by omega
        obtain rfl : at_ = 0 := by omega
        have hl0 : l1 = [] := List.eq_nil_of_length_eq_zero (by omega)
        have hcv : ∀ q cp W, (convert 32 9 (.slice q 0 cp)).run Try.prog W = .ok (.string (tx [])) W := fun q cp W => BR.conv (l := []) ⟨q, cp, rfl, fun h => by simp at h⟩
        have HT0 : Hid (txV s = tx []) := by rw [HTV2.out, hl0]; rfl
        clear h2 h3 h4 h6 hn hl1 hdd hl0
        go_wp2_with fail
        go_quiet (fail)
        go_wp2_with fail
        go_quiet (fail)
        go_wp2
        go_ret
        exact ⟨_, _, rfl, SR.drewN (by have h9 := HRN.out; simpa using h9 _), by rw [HTS2.out]; exact Ag.refl _, fun _ => HT0.out.symm, (HG2.out.drewN.trans (Gb.set _ _ _ _)).drewN⟩
      · obtain ⟨g, off, rfl, hgR, hcell⟩ := h4 (by omega)
        have hcv : ∀ m m2, (convert 32 9 (.slice (some ⟨g, off + at_, none⟩) c (cap - at_))).run Try.prog (((w2.drewN m).setCell ⟨R, 1, none⟩ (.int .i64 ((at_ : Int) + c))).drewN m2) = .ok (.string (tx (l1.take c))) (((w2.drewN m).setCell ⟨R, 1, none⟩ (.int .i64 ((at_ : Int) + c))).drewN m2) := fun m m2 => by
          have hl : (l1.take c).length = c := by rw [List.length_take]; omega
          have hbr : BR (((w2.drewN m).setCell ⟨R, 1, none⟩ (.int .i64 ((at_ : Int) + c))).drewN m2) (.slice (some ⟨g, off + at_, none⟩) (l1.take c).length (cap - at_)) (l1.take c) := ⟨_, _, rfl, fun _ => ⟨g, off + at_, rfl, fun j hj => ⟨by show g < ((w2.drewN m).setCell ⟨R, 1, none⟩ (.int .i64 ((at_ : Int) + c))).heap.size; rw [set_size]; have := HR2.out.lt; show g < w2.heap.size; omega, by
            have hj1 : j < c := by rw [List.length_take] at hj; omega
            rw [World.cell?_of_block (w := w2) (w' := ((w2.drewN m).setCell ⟨R, 1, none⟩ (.int .i64 ((at_ : Int) + c))).drewN m2) (a := ⟨g, off + at_ + j, none⟩) (heap_other (W := w2.drewN m) _ (by show g ≠ R; omega))]
            have hx := hcell (at_ + j) (by omega)
            rw [Nat.add_assoc, hx]
            congr 2
            simp [← h3]⟩⟩⟩
          rw [hl] at hbr
          exact hbr.conv
        have hcv0 : ∀ q cp W, (convert 32 9 (.slice q 0 cp)).run Try.prog W = .ok (.string (tx [])) W := fun q cp W => BR.conv (l := []) ⟨q, cp, rfl, fun h => by simp at h⟩
        have k1 : (at_ : Int) + c ≤ cap := by omega
        have k2 : (at_ : Int) + c ≤ n := by omega
        have HC0 : Hid (c = 0 → tx [] = tx (l1.take c)) := fun q => by subst q; rfl
        have hne : g ≠ R := by omega
        clear h3 h4 h6 hn hl1 hdd hcell
        by_cases hca : cap = at_
        · subst hca
          obtain rfl : c = 0 := by omega
          simp only [Int.natCast_zero, Int.add_zero] at *
          have q1 : cap - cap = 0 := by omega
          go_wp2_with fail
          go_quiet (fail)
          go_wp2_with fail
          go_quiet (fail)
          go_wp2
          go_ret
          exact ⟨_, _, rfl, SR.drewN (by have h9 := HRN.out; first | exact h9 _ | simpa using h9 _), by rw [HTS2.out]; exact Ag.refl _, fun _ => by first | exact HTV2.out.symm | (rw [HTV2.out]; exact HC0.out rfl), (HG2.out.drewN.trans (Gb.set _ _ _ _)).drewN⟩
        · have hwat : IntKind.i64.wrap (at_ : Int) = (at_ : Int) := by simp [IntKind.wrap, IntKind.bits, IntKind.signed]; omega
          have hwac : IntKind.i64.wrap ((at_ : Int) + c) = (at_ : Int) + c := by simp [IntKind.wrap, IntKind.bits, IntKind.signed]; omega
          have u0 : (0 : Int) ≤ at_ := by omega
          have u1 : (at_ : Int) ≤ (at_ : Int) + c := by omega
          have q1 : ¬ cap - at_ = 0 := by omega
          have q2 : ¬ cap ≤ at_ := by omega
          have q3 : at_ < cap := by omega
          have q4 : ¬ at_ = cap := by omega
          have q5 : ¬ (at_ : Int) = (cap : Int) := by omega
          have q6 : ¬ (cap : Int) ≤ (at_ : Int) := by omega
          have q7 : ¬ (cap : Int) - (at_ : Int) = 0 := by omega
          go_wp2_with fail
          go_quiet (fail)
          go_wp2_with fail
          go_quiet (fail)
          go_wp2
          go_ret
          exact ⟨_, _, rfl, SR.drewN (by have h9 := HRN.out; first | exact h9 _ | simpa using h9 _), by rw [HTS2.out]; exact Ag.refl _, fun _ => by first | exact HTV2.out.symm | (rw [HTV2.out]; exact HC0.out rfl), (HG2.out.drewN.trans (Gb.set _ _ _ _)).drewN⟩
  · have heb : (e1 != 0) = true := by simpa using he
    have c2 := row_cell (j := 2) h1 rfl
    have HB : Hid (e1 = (txS s).e) := by
      have h5 : (smS s).e ≠ 0 := by rw [← ha1]; exact he
      show e1 = _
      unfold txS
      by_cases q : (smS s).l.length < smV s
      · rw [if_pos q, rfx_keep h5, ← ha1]
      · rw [if_neg q, ← ha1]
    clear ha1 ha2 hcv h1 h4
    go_wp2
    go_ret
    exact ⟨_, _, rfl, HR2.out, ⟨HB.out, fun h0 => absurd h0 he⟩, fun h0 => absurd h0 he, HG2.out⟩
end Go.Proofs.Ytepgkemnpcadiaa
