/-
  What back answers, and what it leaves; what one job answers.
-/
import Derived.Test.YtchiajedajabnaaE
namespace Go.Proofs.Ytchiajedajabnaa
open Go.ChangeShapes Go.WideShapes Go.ChangeAt Go.RowKit Go.Maps
set_option linter.unusedVariables false
set_option linter.unusedSimpArgs false
theorem Res.grown {W w1 : World} {b : Nat} {q : Q4} {o : Obj} {r : Option Nat} (h : Res W b q) (g : ((W.alloc o).drew).grownBy w1 r) (hne : some b ≠ r) : Res w1 b q :=
  (g.block b (by simp [World.drew]; have := h.lt; omega) (fun e => hne e)).trans (h.below (below_new' W o).drew)
/-- A place is cleared. -/
theorem place_cleared {W : World} {B ab g cap : Nat} {F : Value} {s : As} {j : Nat} (h : Am W B ab (.slice (some ⟨g, 0, none⟩) s.ps.length cap) F s) (hj : j < s.ps.length) :
    Am (W.setCell ⟨g, j * 2, none⟩ (.int .i64 0)).drew B ab (.slice (some ⟨g, 0, none⟩) s.ps.length cap) F ⟨s.ps.set j (0, s.turn j), s.fr⟩ := by
  obtain ⟨r1, g1⟩ := h.rp.stored (j * 2) (.int .i64 0)
  have hl : (s.ps.set j (0, s.turn j)).length = s.ps.length := by simp
  refine h.put (((Turn.refl _ _).grown g1 (fun k hk _ => hk)).drew) ?_
  have e : s.turn j = s.ps[j].2 := by rw [As.turn, getD_eq _ _ _ hj]
  rw [hl, e, ← flat2_set1 s.ps j 0 hj]
  exact r1.drew
theorem back_end {w W3 w1 : World} {B ab g' cap' len caq j b : Nat} {p : Option Addr} {V F : Value} {s S : As} {o : Obj} {x : Q4} (hw : Am w B ab V F s) (hA : Am W3 B ab V F S) (hT : Turn (Own ab V F) w W3) (hF : F = .slice p len caq) (hl : S.fr.length = len)
    (hown : w1.ownsRow B 3 1 (.slice (some ⟨g', 0, none⟩) (len + 1) cap') (len + 1) (S.fr.map encF ++ [encF j])) (hgrow : ((W3.alloc o).drew).grownBy w1 (Value.slice p len caq).ownBlock) (hat : (Value.slice p len caq).ownBlock = some g' ∨ g' = W3.heap.size + 1)
    (hb : w.heap.size ≤ b) (hR : Res W3 b (0, 0, 0, 0)) :
    Res (((((w1.setCell ⟨ab, 1, none⟩ (.slice (some ⟨g', 0, none⟩) (len + 1) cap')).setCell ⟨b, 0, none⟩ (.int .i64 x.1)).setCell ⟨b, 1, none⟩ (.int .i64 x.2.1)).setCell ⟨b, 2, none⟩ (.int .i64 x.2.2.1)).setCell ⟨b, 3, none⟩ (.int .i64 x.2.2.2)) b x ∧
    After B ab ⟨S.ps, S.fr ++ [j]⟩ V F w (((((w1.setCell ⟨ab, 1, none⟩ (.slice (some ⟨g', 0, none⟩) (len + 1) cap')).setCell ⟨b, 0, none⟩ (.int .i64 x.1)).setCell ⟨b, 1, none⟩ (.int .i64 x.2.1)).setCell ⟨b, 2, none⟩ (.int .i64 x.2.2.1)).setCell ⟨b, 3, none⟩ (.int .i64 x.2.2.2)) := by
  rw [← hF] at hgrow hat
  have hlt := hR.lt
  have hno : ∀ k, Own ab V F k → k < w.heap.size := fun k hk => After.lt (w' := w) hw hk
  have hFb : some b ≠ F.ownBlock := fun c => by have := hno b (Or.inr (Or.inr c.symm)); omega
  have hba : b ≠ ab := fun c => by have := hno ab (Or.inl rfl); omega
  have tr : Turn (fun k => F.ownBlock = some k) W3 w1 := (((Turn.refl _ _).alloc o).drew).grown hgrow (fun k hk _ => hk)
  have hat' : ∀ k, (Value.slice (some ⟨g', 0, none⟩) (len + 1) cap').ownBlock = some k → F.ownBlock = some k ∨ W3.heap.size ≤ k := fun k hk => by
    simp [Value.ownBlock] at hk
    subst hk
    rcases hat with h | h
    · exact Or.inl h
    · exact Or.inr (by omega)
  have hrow : w1.ownsRow B 3 1 (.slice (some ⟨g', 0, none⟩) (len + 1) cap') (S.fr ++ [j]).length ((S.fr ++ [j]).map encF) := by
    simpa [hl] using hown
  have A4 := hA.setF tr hrow hat'
  have hR1 := hR.grown hgrow hFb
  have hR2 : Res (w1.setCell ⟨ab, 1, none⟩ (.slice (some ⟨g', 0, none⟩) (len + 1) cap')) b (0, 0, 0, 0) := by
    unfold Res
    rw [RowKit.Below.heap_setCell _ _ _ _ hba]
    exact hR1
  have T4 : Turn (Own ab V F) w (w1.setCell ⟨ab, 1, none⟩ (.slice (some ⟨g', 0, none⟩) (len + 1) cap')) := (hT.trans tr (fun k _ h => Or.inr (Or.inr h))).setCell (p := ⟨ab, 1, none⟩) (Or.inl rfl) _
  refine ⟨hR2.set x, _, _, A4.turn (set4_turn _ b _ _ _ _) (fun k hk c => ?_), T4.trans (set4_turn _ b _ _ _ _) (fun k hk e => by omega), fun k hk => ?_⟩
  · subst hk
    rcases c with c | c | c
    · exact hba c
    · have := hno k (Or.inr (Or.inl c)); omega
    · rcases hat' k c with d | d
      · exact hFb d.symm
      · omega
  · rcases hk with c | c | c
    · exact Or.inl (Or.inl c)
    · exact Or.inl (Or.inr (Or.inl c))
    · rcases hat' k c with d | d
      · exact Or.inl (Or.inr (Or.inr d))
      · exact Or.inr (by omega)
set_option maxHeartbeats 4000000 in
theorem back_any (B ab : Nat) (V F : Value) (s : As) (p t : Int) (w : World) (k : Nat) (h : Am w B ab V F s) (hi : Ai s k) (hk : k ≤ 2000) :
    Calls Try.prog 17 #[.pointer (some ⟨ab, 0, none⟩), .agg #[.int .i64 p, .int .i64 t]] w fun e w' => e = .returned (q4V (lk s p t)) ∧ After B ab (bk s p t) V F w w' := by
  have hb1 := below_new' w (.cells #[.int .i64 p, .int .i64 t] 35)
  have hb2 := below_new' (w.alloc (.cells #[.int .i64 p, .int .i64 t] 35)) (.cells #[.int .i64 0, .int .i64 0, .int .i64 0, .int .i64 0] 39)
  have HA : Hid (Am ((w.alloc (.cells #[.int .i64 p, .int .i64 t] 35)).alloc (.cells #[.int .i64 0, .int .i64 0, .int .i64 0, .int .i64 0] 39)) B ab V F s) := (h.below hb1).below hb2
  have HR : Hid (Res ((w.alloc (.cells #[.int .i64 p, .int .i64 t] 35)).alloc (.cells #[.int .i64 0, .int .i64 0, .int .i64 0, .int .i64 0] 39)) (w.heap.size + 1) (0, 0, 0, 0)) := by
    have := res_new (w.alloc (.cells #[.int .i64 p, .int .i64 t] 35)) (0, 0, 0, 0)
    rw [show (w.alloc (.cells #[.int .i64 p, .int .i64 t] 35)).heap.size = w.heap.size + 1 by simp] at this
    exact this
  have HW : Hid (Am w B ab V F s) := h
  have HB : Hid (Below w.heap.size w ((w.alloc (.cells #[.int .i64 p, .int .i64 t] 35)).alloc (.cells #[.int .i64 0, .int .i64 0, .int .i64 0, .int .i64 0] 39))) := hb1.trans (hb2.mono (by simp))
  have b0 : ((w.alloc (.cells #[.int .i64 p, .int .i64 t] 35)).alloc (.cells #[.int .i64 0, .int .i64 0, .int .i64 0, .int .i64 0] 39)).cell? ⟨w.heap.size, 0, none⟩ = some (.int .i64 p) := by go_simp
  have HI : Hid (Ai s k) := hi
  have HP : Hid (s.ps.length ≤ 5000 ∧ s.fr.length ≤ 5000) := ⟨by have := hi.pl; omega, by have := hi.fl; omega⟩
  clear h hi hb1 hb2
  unfold bk
  have hl1 : (lk s p t).1 = chk s p t := by
    unfold lk; split <;> rename_i c
    · exact c.symm
    · rfl
  by_cases hc : chk s p t = 0
  · rw [hc] at hl1
    simp only [hc, if_true]
    obtain ⟨p0, p1⟩ := chk_ok hc
    obtain ⟨j, rfl⟩ := Int.eq_ofNat_of_zero_le p0
    have hlk : lk s (j : Int) t = (0, s.num j, 0, 0) := by unfold lk; rw [hc]; simp
    rw [hlk, Int.toNat_natCast]
    obtain ⟨n, hn⟩ : ∃ n, s.num j = n := ⟨_, rfl⟩
    have HLK : Hid (lk s (j : Int) t = (0, n, 0, 0)) := by show _ = _; rw [hlk, hn]
    have HJL : Hid (j < s.ps.length) := by show _ < _; omega
    have i1 : (0 : Int) ≤ (j : Int) := by omega
    rw [hn]
    clear hl1 hc hlk hn p0
    go_enter Try.func17, Try.ntmps17
    go_wp2_with fail
    refine (look_any B ab V F s _ t _ HA.out HP.out.1).mono ?_
    rw [HLK.out]
    unfold q4V
    rintro e w2 ⟨rfl, hB⟩
    have hR2 := HR.out.below hB
    have HR2 : Hid (Res w2 (w.heap.size + 1) (0, 0, 0, 0)) := hR2
    have HB2 : Hid (Below w.heap.size w w2) := HB.out.trans (hB.mono (by simp; omega))
    have hs2 : w.heap.size + 1 < w2.heap.size := hR2.lt
    have hab := HW.out.sizeAb
    have n0 : w.heap.size ≠ ab := by omega
    have n1 : w.heap.size + 1 ≠ ab := by omega
    have n2 : w2.heap.size ≠ ab := by omega
    have n3 : w2.heap.size ≠ w.heap.size := by omega
    have n4 : w2.heap.size ≠ w.heap.size + 1 := by omega
    have hA2 := (HA.out.below hB).below (below_new' w2 (.cells #[.int .i64 0, .int .i64 n, .int .i64 0, .int .i64 0] 39))
    obtain ⟨pp, cap, hV, hg⟩ := hA2.shapeV
    obtain ⟨g, rfl⟩ := hg (by have := HJL.out; omega)
    subst hV
    have hgw : g < w.heap.size := (HW.out.rp.lt g rfl).2
    have n5 : w.heap.size ≠ g := by omega
    have n5' : g ≠ w.heap.size := by omega
    have n6 : w.heap.size + 1 ≠ g := by omega
    have n6' : g ≠ w.heap.size + 1 := by omega
    have n7' : g ≠ w2.heap.size := by omega
    have n7 : w2.heap.size ≠ g := by omega
    have n8 : ab ≠ g := fun e => HW.out.notV (by rw [e]; rfl)
    have n9 : g ≠ ab := Ne.symm n8
    have c0 := hA2.c0
    have c1 := hA2.c1
    have b1 : (w2.alloc (.cells #[.int .i64 0, .int .i64 n, .int .i64 0, .int .i64 0] 39)).cell? ⟨w.heap.size, 0, none⟩ = some (.int .i64 j) := cellA ((hB.cell (p := ⟨w.heap.size, 0, none⟩) (by simp; omega)).trans b0)
    obtain ⟨k0, k1, kf⟩ := hA2.place HJL.out
    have kf0 := kf (j * 2)
    have HA2 : Hid (Am (w2.alloc (.cells #[.int .i64 0, .int .i64 n, .int .i64 0, .int .i64 0] 39)) B ab (.slice (some ⟨g, 0, none⟩) s.ps.length cap) F s) := hA2
    generalize s.num j = y at *
    clear hB hR2 hA2 hg b0 k1 kf
    go_wp2_with fail
    go_region_held3 (fun w' => w'.cell? ⟨ab, 0, none⟩ = some (.slice (some ⟨g, 0, none⟩) s.ps.length cap) ∧ w'.cell? ⟨w.heap.size, 0, none⟩ = some (.int .i64 (j : Int))) (go_keep) (fail)
    go_wp2_with fail
    obtain ⟨W1, hW1⟩ : ∃ W1, W1 = w2.alloc (.cells #[.int .i64 0, .int .i64 n, .int .i64 0, .int .i64 0] 39) := ⟨_, rfl⟩
    have hF1 : Res W1 w2.heap.size (0, n, 0, 0) := by rw [hW1]; exact res_new w2 (0, n, 0, 0)
    have hR1 : Res W1 (w.heap.size + 1) (0, 0, 0, 0) := by rw [hW1]; exact HR2.out.below (below_new' _ _)
    have hB1 : Below w.heap.size w W1 := by rw [hW1]; exact HB2.out.trans ((below_new' _ _).mono (by omega))
    have hA1 : Am W1 B ab (.slice (some ⟨g, 0, none⟩) s.ps.length cap) F s := by rw [hW1]; exact HA2.out
    rw [← hW1] at b1
    rw [← hW1]
    clear hW1 k0 kf0 c0 c1 HA2 HR2
    obtain ⟨W3, hW3⟩ : ∃ W3, W3 = (W1.setCell ⟨g, j * 2, none⟩ (.int .i64 0)).drew := ⟨_, rfl⟩
    have hA3 : Am W3 B ab (.slice (some ⟨g, 0, none⟩) s.ps.length cap) F ⟨s.ps.set j (0, s.turn j), s.fr⟩ := by rw [hW3]; exact place_cleared hA1 HJL.out
    have t3 : Turn (fun k => k = g) W1 W3 := by rw [hW3]; exact ((Turn.refl (fun k => k = g) W1).setCell (p := ⟨g, j * 2, none⟩) rfl _).drew
    have hF3 := hF1.turn t3 (Ne.symm n7')
    have hR3 := hR1.turn t3 (Ne.symm n6')
    have b3 : W3.cell? ⟨w.heap.size, 0, none⟩ = some (.int .i64 j) := (t3.cell (p := ⟨w.heap.size, 0, none⟩) (World.block_lt_of_cell? _ _ b1) n5).trans b1
    have hT3 : Turn (Own ab (.slice (some ⟨g, 0, none⟩) s.ps.length cap) F) w W3 := (Turn.of_below hB1).trans t3 (fun k _ e => Or.inr (Or.inl (by rw [e]; rfl)))
    rw [← hW3]
    obtain ⟨q, caq, hFq, _⟩ := hA3.shapeF
    have hFq : F = .slice q s.fr.length caq := hFq
    have c1 := hA3.c1
    have f1 := hA3.fz 1
    have hW3s : w2.heap.size < W3.heap.size := hF3.lt
    obtain ⟨len, hlen⟩ : ∃ len, s.fr.length = len := ⟨_, rfl⟩
    have hrow : Hid (W3.ownsRow B 3 1 (.slice q len caq) len (s.fr.map encF)) := by
      show World.ownsRow _ _ _ _ _ _ _
      have := hA3.rf
      rw [hFq] at this
      rw [← hlen]
      exact this
    rw [hFq, hlen] at c1
    have dqa : ∀ o, (W3.alloc o).cell? ⟨ab, 1, none⟩ = some (.slice q len caq) := fun o => cellA c1
    have b3a : ∀ o, (W3.alloc o).cell? ⟨w.heap.size, 0, none⟩ = some (.int .i64 j) := fun o => cellA b3
    have hlen2 : len ≤ 5000 := by have := HP.out.2; omega
    have N1 : Hid (some ab ≠ (Value.slice q len caq).ownBlock) := by
      show _ ≠ _
      rw [← hlen, ← hFq]; exact Ne.symm HW.out.notF
    have NF : ∀ k, w.heap.size ≤ k → some k ≠ (Value.slice q len caq).ownBlock := fun k hk c => by
      rw [← hlen, ← hFq] at c
      have := (HW.out.rf.lt k c.symm).2
      omega
    have N2 : Hid (some (w.heap.size + 1) ≠ (Value.slice q len caq).ownBlock) := NF _ (by omega)
    have N3 : Hid (some w2.heap.size ≠ (Value.slice q len caq).ownBlock) := NF _ (by omega)
    obtain ⟨i0, a1, a2, a3, a4⟩ := info_parts info3
    have HI3 : Hid (Try.prog.info? 3 = some i0 ∧ i0.zero = some (.int .i64 0) ∧ i0.size = 1 ∧ i0.bytes = 8) := ⟨a1, a2, a3, a4⟩
    have HBS : Hid (B ≤ W3.heap.size) := hA3.BS
    have HF3 : Hid (Res W3 w2.heap.size (0, n, 0, 0)) := hF3
    have HR3 : Hid (Res W3 (w.heap.size + 1) (0, 0, 0, 0)) := hR3
    have HT3 : Hid (Turn (Own ab (.slice (some ⟨g, 0, none⟩) s.ps.length cap) F) w W3) := hT3
    have HA3 : Hid (Am W3 B ab (.slice (some ⟨g, 0, none⟩) s.ps.length cap) F ⟨s.ps.set j (0, s.turn j), s.fr⟩) := hA3
    have HFQ : Hid (F = .slice q len caq) := by show _ = _; rw [hFq, hlen]
    have HLEN : Hid (s.fr.length = len) := hlen
    have HAB : Hid (ab < W3.heap.size) := hA3.sizeAb
    have m1 : W3.heap.size ≠ ab := by have := hA3.sizeAb; omega
    have m2 : W3.heap.size ≠ w.heap.size := by omega
    have m3 : W3.heap.size ≠ w2.heap.size := by omega
    have m4 : W3.heap.size ≠ w.heap.size + 1 := by omega
    clear hW3 hA3 t3 hF3 hR3 hT3 hA1 hF1 hR1 hB1 b1 hlen hFq NF a1 a2 a3 a4 hW3s
    go_region_law
      ((refine step_append_lies _ (by rfl) _ _ _ (by rfl) B 3 i0 (.int .i64 0) 1 8 Try.underlying45 HI3.out.1 HI3.out.2.1 HI3.out.2.2.1 HI3.out.2.2.2 rfl (by omega) (.slice q len caq) len _ (by rfl) (hrow.out.alloc _) ⟨W3.heap.size, 0, none⟩ 1 1 [encF j] (by rfl) (by rfl) (World.news_of_block (heap_alloc_new _ _)) (by simp [encF, Value.oneCell']) (by omega) (by unfold maxLen; omega) (by omega) (by simp; exact Nat.le_succ_of_le HBS.out) (W3.heap.size + 1) (by simp) ?_; intro g' cap' w1 hown hgrow hat hlt; have s1 : w1.cell? ⟨ab, 1, none⟩ = some (.slice q len caq) := hgrow.cell (cellA c1) N1.out; have s2 : w1.frozen? ⟨ab, 1, none⟩ = false := (hgrow.frozen_far ⟨ab, 1, none⟩ (by simp; have := HAB.out; omega) N1.out).trans ((frozA (p := ⟨ab, 1, none⟩) HAB.out).trans f1); obtain ⟨x0, x1, x2, x3, _⟩ := (HF3.out.grown hgrow N3.out).cells; obtain ⟨y0, y1, y2, y3, yf⟩ := (HR3.out.grown hgrow N2.out).cells))
    all_goals go_wp2
    all_goals
      obtain ⟨z1, z2⟩ := back_end (x := (0, n, 0, 0)) HW.out HA3.out HT3.out HFQ.out HLEN.out hown hgrow hat (Nat.le_succ _) HR3.out
      have e : F = .slice q s.fr.length caq := by rw [HLEN.out]; exact HFQ.out
      rw [e] at z2
      exact ret4 (b := w.heap.size + 1) (q := (0, n, 0, 0)) 4 Try.results17 (by rfl) z1 (by rfl) ⟨rfl, z2⟩
  · simp only [hc, if_false]
    obtain ⟨q, hq⟩ : ∃ q, lk s p t = q := ⟨_, rfl⟩
    obtain ⟨q1, q2, q3, q4⟩ := q
    rw [hq] at hl1
    have HQ : Hid (lk s p t = (q1, q2, q3, q4)) := hq
    rw [hq]
    have e1 : (q1 == 0) = false := by
      have e : q1 = chk s p t := hl1
      rw [e]; simpa using hc
    clear hq hl1 hc
    go_enter Try.func17, Try.ntmps17
    go_wp2_with fail
    refine (look_any B ab V F s p t _ HA.out HP.out.1).mono ?_
    rw [HQ.out]
    unfold q4V
    rintro e w2 ⟨rfl, hB⟩
    have hR2 := HR.out.below hB
    obtain ⟨r0, r1, r2, r3, rf⟩ := hR2.cells
    have HR2 : Hid (Res w2 (w.heap.size + 1) (0, 0, 0, 0)) := hR2
    have HB2 : Hid (Below w.heap.size w w2) := HB.out.trans (hB.mono (by simp; omega))
    have hs2 : w.heap.size + 1 < w2.heap.size := hR2.lt
    have hne : w2.heap.size ≠ w.heap.size + 1 := by omega
    clear hB hR2
    go_wp2
    exact ret4 (b := w.heap.size + 1) (q := (q1, q2, q3, q4)) 4 Try.results17 (by rfl) ((HR2.out.set (q1, q2, q3, q4)).below (below_new' _ _)) (by rfl) ⟨rfl, After.same HW.out ((set4_below HB2.out (by omega) _ _ _ _).alloc (by simp only [World.size_setCell]; omega) _)⟩
end Go.Proofs.Ytchiajedajabnaa
