/-
  What the document's arena answers.
-/
import Derived.Test.YtchiajedajabnaaJr
namespace Go.Proofs.Ytchiajedajabnaa
open Go.ChangeShapes Go.WideShapes Go.ChangeAt Go.RowKit
set_option linter.unusedVariables false
set_option linter.unusedSimpArgs false
theorem jr_next {w X w9 : World} {V F U U' : Value} {S S' : As} {js : List Q4} {k : Nat} {q d : Q4} {o : Obj} (hd : js[k]? = some d) (hS : after s0 (js.take k) = S) (hst : step S d = (q, S')) (h : Jr w X V F U S' (play s0 (js.take k))) (hown : w9.ownsRow w.heap.size 39 4 U' (k + 1) ((play s0 (js.take k)).flatMap enc4 ++ enc4 q)) (hg : (X.alloc o).grownBy w9 U.ownBlock) (hat : U'.ownBlock = U.ownBlock ∨ U'.ownBlock = some (X.alloc o).heap.size) :
    Jr w w9 V F U' (after s0 (js.take (k + 1))) (play s0 (js.take (k + 1))) := by
  obtain ⟨hk, rfl⟩ := List.getElem?_eq_some_iff.1 hd
  rw [after_step s0 js k hk, play_take js k hk, hS, hst]
  have hl : (play s0 (js.take k)).length = k := by rw [play_len, List.length_take]; omega
  exact h.out (by rw [hl]; exact hown) hg hat
theorem in_is (x lo hi : Int) (b : Bool) (h : decide (lo ≤ x ∧ x ≤ hi) = b) : ∀ W, Calls Try.prog 14 #[.int .i64 x, .int .i64 lo, .int .i64 hi] W fun e w' => e = .returned (.bool b) ∧ w' = W := fun W => by
  have := in_any x lo hi W
  rw [h] at this
  exact this
theorem in_q (x lo hi : Int) (b : Bool) (h : decide (lo ≤ x ∧ x ≤ hi) = b) : ∀ W, Calls Try.prog 14 #[.int .i64 x, .int .i64 lo, .int .i64 hi] W fun e w' => e = .returned (.bool b) ∧ ∃ n, w' = W.drewN n := fun W =>
  (in_is x lo hi b h W).mono fun e w' ⟨h1, h2⟩ => ⟨h1, 0, h2⟩
set_option maxRecDepth 100000 in
set_option maxHeartbeats 32000000 in
theorem jobbed_any (v : Value) (js : List Q4) (w : World) (hd : JobsAt w v js) (hl : js.length ≤ 2000) :
    Calls Try.prog 9 #[v] w fun e w' => ∃ u, e = .returned (.tuple #[u, .int .i64 0]) ∧ FoundsAt w' u (play s0 js) ∧ Below w.heap.size w w' := by
  obtain ⟨p, cap, rfl, hp⟩ := hd
  obtain ⟨n, hnl⟩ : ∃ n, js.length = n := ⟨_, rfl⟩
  have HP : Hid (0 < js.length → ∃ g off, p = some ⟨g, off, none⟩ ∧ ∀ j (hj : j < js.length), g < w.heap.size ∧ w.cell? ⟨g, off + j * 4, none⟩ = some (.int .i64 js[j].1) ∧ w.cell? ⟨g, off + j * 4 + 1, none⟩ = some (.int .i64 js[j].2.1) ∧ w.cell? ⟨g, off + j * 4 + 2, none⟩ = some (.int .i64 js[j].2.2.1) ∧ w.cell? ⟨g, off + j * 4 + 3, none⟩ = some (.int .i64 js[j].2.2.2)) := hp
  have HNL : Hid (js.length = n) := hnl
  have hl2 : decide ((2000 : Int) < (n : Int)) = false := by simp; omega
  have hn2000 : n ≤ 2000 := by omega
  obtain ⟨i1, a1, a2, a3, a4⟩ := info_parts info39
  have HI1 : Hid (Try.prog.info? 39 = some i1 ∧ i1.zero = some (.agg #[.int .i64 0, .int .i64 0, .int .i64 0, .int .i64 0]) ∧ i1.size = 4 ∧ i1.bytes = 32) := ⟨a1, a2, a3, a4⟩
  obtain ⟨i2, c1, c2, c3, c4⟩ := info_parts info52
  have HI2 : Hid (Try.prog.info? 52 = some i2 ∧ i2.zero = some (.agg #[.int .i64 0, .int .i64 0]) ∧ i2.size = 2 ∧ i2.bytes = 16) := ⟨c1, c2, c3, c4⟩
  obtain ⟨i3, d1, d2, d3, d4⟩ := info_parts info3
  have HI3 : Hid (Try.prog.info? 3 = some i3 ∧ i3.zero = some (.int .i64 0) ∧ i3.size = 1 ∧ i3.bytes = 8) := ⟨d1, d2, d3, d4⟩
  rw [hnl]
  clear hp hl hnl a1 a2 a3 a4 c1 c2 c3 c4 d1 d2 d3 d4
  go_enter Try.func9, Try.ntmps9
  go_wp2
  go_loopw [4, 5, 6, 7] (fun U V F i wr => ∃ k : Nat, k ≤ n ∧ i = .int .i64 k ∧ Jr w wr V F U (after s0 (js.take k)) (play s0 (js.take k))) (fun _ _ _ i _ => n + 1 - (intOf i).toNat)
  case atStart => exact ⟨0, by omega, rfl, ⟨by simpa [after, s0, sw] using World.ownsRow_nil w w.heap.size 52 2, by simpa [after, s0] using World.ownsRow_nil w w.heap.size 3 1, by simpa [play] using World.ownsRow_nil w w.heap.size 39 4, fun k h => (by cases h), fun k h => (by cases h), fun k h => (by cases h), Below.refl _ _⟩⟩
  case round =>
    obtain ⟨k, hk, rfl, hJ⟩ := hrel
    by_cases hlt : k < n
    · have hkj : k < js.length := by have := HNL.out; omega
      obtain ⟨g0, off, hg, hc⟩ := HP.out (by omega)
      subst hg
      obtain ⟨hgs, j0, j1, j2, j3⟩ := hc k hkj
      have hpl : (play s0 (js.take k)).length = k := by rw [play_len, List.length_take]; omega
      have hai : Ai (after s0 (js.take k)) k := by
        have := Ai.none.after (js.take k)
        rw [List.length_take, Nat.min_eq_left (by omega), Nat.zero_add] at this
        exact this
      obtain ⟨S, hS⟩ : ∃ S, after s0 (js.take k) = S := ⟨_, rfl⟩
      obtain ⟨d, hdk⟩ : ∃ d, js[k] = d := ⟨_, rfl⟩
      rw [hS] at hJ hai
      obtain ⟨pv, cv, hV⟩ := own_shape hJ.rv
      obtain ⟨pf, cf, hF⟩ := own_shape hJ.rf
      obtain ⟨pu, cu, hU⟩ := own_shape hJ.ru
      rw [hpl] at hU
      obtain ⟨m, hm0⟩ : ∃ m, S.ps.length = m := ⟨_, rfl⟩
      obtain ⟨l, hl0⟩ : ∃ l, S.fr.length = l := ⟨_, rfl⟩
      rw [hm0] at hV
      rw [hl0] at hF
      subst hV hF hU
      have HML : Hid (S.ps.length = m ∧ S.fr.length = l) := ⟨hm0, hl0⟩
      rw [hdk] at j0 j1 j2 j3
      obtain ⟨x, nu, p, t⟩ := d
      dsimp only at j0 j1 j2 j3
      have b0 := (hJ.below.cell (p := ⟨g0, off + k * 4, none⟩) hgs).trans j0
      have b1 := (hJ.below.cell (p := ⟨g0, off + k * 4 + 1, none⟩) hgs).trans j1
      have b2 := (hJ.below.cell (p := ⟨g0, off + k * 4 + 2, none⟩) hgs).trans j2
      have b3 := (hJ.below.cell (p := ⟨g0, off + k * 4 + 3, none⟩) hgs).trans j3
      have hws : w.heap.size ≤ wr.heap.size := by have := hJ.below.size; omega
      have hm := hai.pl
      have hf := hai.fl
      rw [hm0] at hm
      rw [hl0] at hf
      have q1 : (0 : Int) ≤ (k : Int) := by omega
      have q2 : (k : Int) < (n : Int) := by omega
      obtain ⟨Wb, hWb⟩ : ∃ Wb, Wb = ((wr.alloc (.cells #[.int .i64 x, .int .i64 nu, .int .i64 p, .int .i64 t] 37)).alloc (.cells #[.int .i64 0, .int .i64 0, .int .i64 0, .int .i64 0] 39)).alloc (.cells #[.int .i64 p, .int .i64 t] 35) := ⟨_, rfl⟩
      have hBb : Below wr.heap.size wr Wb := by rw [hWb]; exact ((below_new' _ _).trans ((below_new' _ _).mono (by simp))).trans ((below_new' _ _).mono (by simp; omega))
      have hJb := hJ.on hBb
      have hsW : Wb.heap.size = wr.heap.size + 3 := by rw [hWb]; simp
      have hRb : Res Wb (wr.heap.size + 1) (0, 0, 0, 0) := by
        have h1 := res_new (wr.alloc (.cells #[.int .i64 x, .int .i64 nu, .int .i64 p, .int .i64 t] 37)) (0, 0, 0, 0)
        rw [show (wr.alloc (.cells #[.int .i64 x, .int .i64 nu, .int .i64 p, .int .i64 t] 37)).heap.size = wr.heap.size + 1 by simp] at h1
        rw [hWb]; exact h1.below (below_new' _ _)
      have w0 : Wb.cell? ⟨wr.heap.size, 0, none⟩ = some (.int .i64 x) := by rw [hWb]; go_simp
      have w1 : Wb.cell? ⟨wr.heap.size, 1, none⟩ = some (.int .i64 nu) := by rw [hWb]; go_simp
      have w2 : Wb.cell? ⟨wr.heap.size, 2, none⟩ = some (.int .i64 p) := by rw [hWb]; go_simp
      have w3 : Wb.cell? ⟨wr.heap.size, 3, none⟩ = some (.int .i64 t) := by rw [hWb]; go_simp
      have w4 : Wb.cell? ⟨wr.heap.size + 1 + 1, 0, none⟩ = some (.int .i64 p) := by rw [hWb]; go_simp
      have w5 : Wb.cell? ⟨wr.heap.size + 1 + 1, 1, none⟩ = some (.int .i64 t) := by rw [hWb]; go_simp
      obtain ⟨r0, r1, r2, r3, rf⟩ := hRb.cells
      have hnn := hJ.notNew (b := wr.heap.size + 1) (by omega)
      have HNN : Hid ((Value.slice pv m cv).ownBlock ≠ some (wr.heap.size + 1) ∧ (Value.slice pf l cf).ownBlock ≠ some (wr.heap.size + 1) ∧ (Value.slice pu k cu).ownBlock ≠ some (wr.heap.size + 1)) := hnn
      have HJb : Hid (Jr w Wb (.slice pv m cv) (.slice pf l cf) (.slice pu k cu) S (play s0 (js.take k))) := hJb
      have HJ : Hid (Jr w wr (.slice pv m cv) (.slice pf l cf) (.slice pu k cu) S (play s0 (js.take k))) := hJ
      have HRes : Hid (Res Wb (wr.heap.size + 1) (0, 0, 0, 0)) := hRb
      have HPL : Hid ((play s0 (js.take k)).length = k) := hpl
      have HSW : Hid (Wb.heap.size = wr.heap.size + 3) := hsW
      have HWS : Hid (w.heap.size ≤ wr.heap.size) := hws
      have HKJ : Hid (k < js.length) := hkj
      have HS : Hid (after s0 (js.take k) = S) := hS
      have HDK : Hid (js[k]? = some (x, nu, p, t)) := by show _ = _; rw [List.getElem?_eq_getElem hkj, hdk]
      have HAI : Hid (Ai S k) := hai
      have ne1 : Wb.heap.size ≠ wr.heap.size + 1 := by omega
      have ne2 : Wb.heap.size ≠ wr.heap.size := by omega
      have ne3 : Wb.heap.size ≠ wr.heap.size + 2 := by omega
      clear hm0 hl0 hsW hJ hc hgs j0 j1 j2 j3 hS hdk hBb hJb hRb hnn hai hpl hws hkj HP
      rcases (by omega : x = 1 ∨ x = 4 ∨ (x = 2 ∨ x = 3) ∨ (x ≠ 1 ∧ x ≠ 4 ∧ x ≠ 2 ∧ x ≠ 3)) with rfl | rfl | hx | ⟨k1, k4, k2, k3⟩
      · rcases (by omega : (¬ (1 ≤ nu ∧ nu ≤ 1048576)) ∨ ((1 ≤ nu ∧ nu ≤ 1048576) ∧ 120 ≤ S.live) ∨ ((1 ≤ nu ∧ nu ≤ 1048576) ∧ ¬ 120 ≤ S.live)) with h1 | ⟨h1, h2⟩ | ⟨h1, h2⟩
        · have HIN : Hid (∀ W, Calls Try.prog 14 #[.int .i64 nu, .int .i64 1, .int .i64 1048576] W fun e w' => e = .returned (.bool false) ∧ w' = W) := in_is nu 1 1048576 false (decide_eq_false h1)
          have HST : Hid (step S (1, nu, p, t) = ((2, 0, 0, 0), S)) := by
            show _ = _
            simp only [step, ln, if_true]
            rw [if_pos (by omega)]
          have HX : Hid (Jr w (Wb.setCell ⟨wr.heap.size + 1, 0, none⟩ (.int .i64 2)) (.slice pv m cv) (.slice pf l cf) (.slice pu k cu) S (play s0 (js.take k))) := HJb.out.far (Turn.setCell (S := fun k => k = wr.heap.size + 1) (Turn.refl _ _) (p := ⟨wr.heap.size + 1, 0, none⟩) rfl _) (by have := HWS.out; omega) HNN.out.1 HNN.out.2.1 HNN.out.2.2
          have HRU : Hid ((Wb.setCell ⟨wr.heap.size + 1, 0, none⟩ (.int .i64 2)).ownsRow w.heap.size 39 4 (.slice pu k cu) k ((play s0 (js.take k)).flatMap enc4)) := by
            have h := HX.out.ru
            rw [HPL.out] at h
            exact h
          clear h1
          as_aux_lemma =>
            go_wp2_with fail
            rw [← hWb]
            clear hWb
            refine (HIN.out _).mono ?_
            rintro e Wb ⟨rfl, rfl⟩
            go_wp2_with (at_builtin; (refine wpList_append_own_at _ (by rfl) _ _ 23 (by rfl) w.heap.size 39 i1 (.agg #[.int .i64 0, .int .i64 0, .int .i64 0, .int .i64 0]) 4 32 Try.underlying23 HI1.out.1 HI1.out.2.1 HI1.out.2.2.1 HI1.out.2.2.2 rfl (by omega) (.slice pu k cu) k _ (by rfl) (HRU.out.alloc _) ⟨Wb.heap.size, 0, none⟩ 1 1 (enc4 (2, 0, 0, 0)) (by rfl) (by rfl) (World.news_of_block (heap_new' (by simp) _ _)) (by simp [enc4, Value.oneCell']) (by unfold maxLen; omega) (by omega) (by simp; have := HWS.out; have := HSW.out; omega) ?_); intro U' w9 hownU hgU hnU hatU)
            go_roundw
            case rel => exact ⟨k + 1, by omega, by go_num, jr_next HDK.out HS.out HST.out HX.out hownU hgU hatU⟩
            case measure => simp [intOf]; omega
        
        · have HIN : Hid (∀ W, Calls Try.prog 14 #[.int .i64 nu, .int .i64 1, .int .i64 1048576] W fun e w' => e = .returned (.bool true) ∧ w' = W) := in_is nu 1 1048576 true (decide_eq_true h1)
          have HST : Hid (step S (1, nu, p, t) = ((8, 0, 0, 0), S)) := by
            show _ = _
            simp only [step, ln, if_true]
            rw [if_neg (by omega), if_pos h2]
          have hlv : (120 : Int) ≤ (m : Int) - (l : Int) := by
            have := HML.out
            unfold As.live at h2
            omega
          have HX : Hid (Jr w (Wb.setCell ⟨wr.heap.size + 1, 0, none⟩ (.int .i64 8)) (.slice pv m cv) (.slice pf l cf) (.slice pu k cu) S (play s0 (js.take k))) := HJb.out.far (Turn.setCell (S := fun k => k = wr.heap.size + 1) (Turn.refl _ _) (p := ⟨wr.heap.size + 1, 0, none⟩) rfl _) (by have := HWS.out; omega) HNN.out.1 HNN.out.2.1 HNN.out.2.2
          have HRU : Hid ((Wb.setCell ⟨wr.heap.size + 1, 0, none⟩ (.int .i64 8)).ownsRow w.heap.size 39 4 (.slice pu k cu) k ((play s0 (js.take k)).flatMap enc4)) := by
            have h := HX.out.ru
            rw [HPL.out] at h
            exact h
          clear h1 h2
          as_aux_lemma =>
            go_wp2_with fail
            rw [← hWb]
            clear hWb
            refine (HIN.out _).mono ?_
            rintro e Wb ⟨rfl, rfl⟩
            go_wp2_with (at_builtin; (refine wpList_append_own_at _ (by rfl) _ _ 23 (by rfl) w.heap.size 39 i1 (.agg #[.int .i64 0, .int .i64 0, .int .i64 0, .int .i64 0]) 4 32 Try.underlying23 HI1.out.1 HI1.out.2.1 HI1.out.2.2.1 HI1.out.2.2.2 rfl (by omega) (.slice pu k cu) k _ (by rfl) (HRU.out.alloc _) ⟨Wb.heap.size, 0, none⟩ 1 1 (enc4 (8, 0, 0, 0)) (by rfl) (by rfl) (World.news_of_block (heap_new' (by simp) _ _)) (by simp [enc4, Value.oneCell']) (by unfold maxLen; omega) (by omega) (by simp; have := HWS.out; have := HSW.out; omega) ?_); intro U' w9 hownU hgU hnU hatU)
            go_roundw
            case rel => exact ⟨k + 1, by omega, by go_num, jr_next HDK.out HS.out HST.out HX.out hownU hgU hatU⟩
            case measure => simp [intOf]; omega
        
        · have HIN : Hid (∀ W, Calls Try.prog 14 #[.int .i64 nu, .int .i64 1, .int .i64 1048576] W fun e w' => e = .returned (.bool true) ∧ w' = W) := in_is nu 1 1048576 true (decide_eq_true h1)
          have hat := tkAt_lt HAI.out
          have hut := HAI.out.turn_tk
          have hut0 := (HAI.out.tk.get (tkAt S)).2.2.1
          have hstep : step S (1, nu, p, t) = ((0, 0, (tkAt S : Int), (tk S).turn (tkAt S) + 1), ⟨(tk S).ps.set (tkAt S) (nu, (tk S).turn (tkAt S) + 1), (tk S).fr⟩) := by
            simp only [step, ln, if_true]
            rw [if_neg (by omega), if_neg h2]
          have hlv : decide ((120 : Int) ≤ (m : Int) - (l : Int)) = false := decide_eq_false (by have := HML.out; unfold As.live at h2; omega)
          by_cases h0 : S.fr.length = 0
          · obtain rfl : l = 0 := by have := HML.out; omega
            have e1 : tkAt S = S.ps.length := by unfold tkAt; rw [if_pos h0]
            have e2 : tk S = ⟨S.ps ++ [(0, 0)], S.fr⟩ := by unfold tk; rw [if_pos h0]
            have e3 : (tk S).turn (tkAt S) = 0 := by rw [e1, e2]; simp [As.turn]
            rw [e3, e1, e2, Int.zero_add] at hstep
            have HST : Hid (step S (1, nu, p, t) = ((0, 0, (m : Int), 1), ⟨(S.ps ++ [(0, 0)]).set m (nu, 1), S.fr⟩)) := by show _ = _; rw [hstep, HML.out.1]
            have HRV : Hid (Wb.ownsRow w.heap.size 52 2 (.slice pv m cv) m ((sw S.ps).flatMap enc2)) := (by have h := HJb.out.rv; rw [HML.out.1] at h; exact h)
            have HRb : Hid (Res Wb (wr.heap.size + 1) (0, 0, 0, 0)) := HRes.out
            have hlv1 : decide ((120 : Int) ≤ (m : Int)) = false := decide_eq_false (by have := HML.out; unfold As.live at h2; omega)
            have hlv2 : (120 ≤ m) = False := eq_false (by have := HML.out; unfold As.live at h2; omega)
            have m0 : (0 : Int) ≤ (m : Int) := by omega
            have m1 : (m : Int) < (m : Int) + 1 := by omega
            have HNW : Hid ((Value.slice pv m cv).ownBlock ≠ some wr.heap.size) := fun c => (by have := (HJ.out.rv.lt _ c).2; omega)
            clear e1 e2 e3 hat hut hut0 hstep h1 h2 h0
            as_aux_lemma =>
              go_wp2_with fail
              rw [← hWb]
              clear hWb
              refine (HIN.out _).mono ?_
              rintro e Wb ⟨rfl, rfl⟩
              go_wp2_with (first
                | (at_builtin; refine wpList_append_own_at _ (by rfl) _ _ 23 (by rfl) w.heap.size 39 i1 (.agg #[.int .i64 0, .int .i64 0, .int .i64 0, .int .i64 0]) 4 32 Try.underlying23 HI1.out.1 HI1.out.2.1 HI1.out.2.2.1 HI1.out.2.2.2 rfl (by omega) (.slice pu k cu) k _ (by rfl) (HRU.out.alloc _) ⟨w6.heap.size, 0, none⟩ 1 1 (enc4 (0, 0, (m : Int), 1)) (by rfl) (by rfl) (World.news_of_block (heap_new' (by simp) _ _)) (by simp [enc4, Value.oneCell']) (by unfold maxLen; omega) (by omega) (by simp; have := HXB.out; omega) ?_; intro U' w9 hownU hgU hnU hatU)
                | (at_builtin; refine wpList_append_own_at _ (by rfl) _ _ 49 (by rfl) w.heap.size 52 i2 (.agg #[.int .i64 0, .int .i64 0]) 2 16 Try.underlying49 HI2.out.1 HI2.out.2.1 HI2.out.2.2.1 HI2.out.2.2.2 rfl (by omega) (.slice pv m cv) m _ (by rfl) (HRV.out.alloc _) ⟨Wb.heap.size, 0, none⟩ 1 1 (enc2 (0, 0)) (by rfl) (by rfl) (World.news_of_block (heap_new' (by simp) _ _)) (by simp [enc2, Value.oneCell']) (by unfold maxLen; omega) (by omega) (by simp; have := HWS.out; have := HSW.out; omega) ?_; intro V' w6 hownV hgV hnV hatV; obtain ⟨g3, cap3, rfl, _, _⟩ := own_form hownV; obtain ⟨J6, t6, x0, x1, xf, xg⟩ := new_box HML.out.1 HJb.out hownV hgV hatV; have gne : g3 ≠ wr.heap.size + 1 := xg _ (by have := HSW.out; omega) HNN.out.1; have gne' : wr.heap.size + 1 ≠ g3 := Ne.symm gne; have gne2 : g3 ≠ wr.heap.size := xg _ (by have := HSW.out; omega) HNW.out; have gne2' : wr.heap.size ≠ g3 := Ne.symm gne2; have wnu : w6.cell? ⟨wr.heap.size, 1, none⟩ = some (.int .i64 nu) := (t6.cell (p := ⟨wr.heap.size, 1, none⟩) (World.block_lt_of_cell? _ _ w1) HNW.out).trans w1; have hR6 := HRb.out.turn t6 HNN.out.1; obtain ⟨y0, y1, y2, y3, yf⟩ := hR6.cells; have HX : Hid (Jr w ((((w6.setCell ⟨g3, m * 2, none⟩ (.int .i64 (1))).setCell ⟨g3, m * 2 + 1, none⟩ (.int .i64 nu)).setCell ⟨wr.heap.size + 1, 2, none⟩ (.int .i64 (m : Int))).setCell ⟨wr.heap.size + 1, 3, none⟩ (.int .i64 (1))) (.slice (some ⟨g3, 0, none⟩) (m + 1) cap3) (.slice pf 0 cf) (.slice pu k cu) ⟨(S.ps ++ [(0, 0)]).set m (nu, 1), S.fr⟩ (play s0 (js.take k))) := lent_end (by simp; exact HML.out.1) J6 (by omega) (by have := HWS.out; omega) gne HNN.out.2.1 HNN.out.2.2 _ _; have HXB : Hid (w.heap.size ≤ w6.heap.size) := J6.below.size; have HRU : Hid (World.ownsRow ((((w6.setCell ⟨g3, m * 2, none⟩ (.int .i64 1)).setCell ⟨g3, m * 2 + 1, none⟩ (.int .i64 nu)).setCell ⟨wr.heap.size + 1, 2, none⟩ (.int .i64 (m : Int))).setCell ⟨wr.heap.size + 1, 3, none⟩ (.int .i64 1)) w.heap.size 39 4 (.slice pu k cu) k ((play s0 (js.take k)).flatMap enc4)) := (by have h := HX.out.ru; rw [HPL.out] at h; exact h)))
              go_roundw
              case rel => exact ⟨k + 1, by omega, by go_num, jr_next HDK.out HS.out HST.out HX.out hownU hgU hatU⟩
              case measure => simp [intOf]; omega
          · obtain ⟨l, rfl⟩ : ∃ l', l = l' + 1 := ⟨l - 1, by have := HML.out; omega⟩
            have hfl : S.fr.length - 1 = l := by have := HML.out; omega
            have e1 : tkAt S = S.fr.getD l 0 := by unfold tkAt; rw [if_neg h0, hfl]
            have e2 : tk S = ⟨S.ps, S.fr.take l⟩ := by unfold tk; rw [if_neg h0, hfl]
            have e3 : (tk S).turn (tkAt S) = S.turn (tkAt S) := by rw [e2]; rfl
            rw [e3] at hstep hut hut0
            rw [e1, e2] at hstep
            rw [e1] at hut hut0
            rw [e1, e2] at hat
            obtain ⟨a, ha⟩ : ∃ a, S.fr.getD l 0 = a := ⟨_, rfl⟩
            rw [ha] at hstep hut hut0 hat
            have ham : a < m := by have := HML.out.1; have : a < S.ps.length := hat; omega
            obtain ⟨u, hu⟩ : ∃ u, S.turn a = u := ⟨_, rfl⟩
            rw [hu] at hstep hut hut0
            have HST : Hid (step S (1, nu, p, t) = ((0, 0, (a : Int), u + 1), ⟨S.ps.set a (nu, u + 1), S.fr.take l⟩)) := hstep
            have hrf := HJb.out.rf
            rw [HML.out.2] at hrf
            obtain ⟨gf, cf', hpf, hq1, hq2⟩ := own_form hrf
            simp only [Value.slice.injEq, true_and] at hpf
            obtain ⟨rfl, rfl⟩ := hpf
            have hrv := HJb.out.rv
            rw [HML.out.1] at hrv
            obtain ⟨g, cv', hpv⟩ := own_form0 hrv (by omega)
            simp only [Value.slice.injEq, true_and] at hpv
            obtain ⟨rfl, rfl⟩ := hpv
            have hbx := Jr.box (s := S) (by rw [HML.out.1]; exact HJb.out) (j := a) (by have := HML.out.1; omega)
            obtain ⟨x0, x1, xf⟩ := hbx
            rw [hu] at x0
            have kf : Wb.cell? ⟨gf, l, none⟩ = some (.int .i64 (a : Int)) := by
              rw [hrf.cellAt _ (by omega), List.getElem?_map, List.getElem?_eq_getElem (by have := HML.out.2; omega)]
              rw [getD_eq _ _ _ (by have := HML.out.2; omega)] at ha
              rw [ha]; rfl
            have JF : Jr w Wb (.slice (some ⟨g, 0, none⟩) m cv) (.slice (some ⟨gf, 0, none⟩) l cf) (.slice pu k cu) ⟨S.ps, S.fr.take l⟩ (play s0 (js.take k)) := by
              refine HJb.out.setF (Turn.refl _ _) ?_ (fun k hk => Or.inl hk)
              have hl : (S.fr.take l).length = l := by rw [List.length_take]; have := HML.out.2; omega
              rw [hl]
              refine ownsRow_pop (last := (S.fr.drop l).map encF) (by rw [List.length_map, hl, Nat.mul_one]) ?_
              rw [← List.map_append, List.take_append_drop]
              exact hrf
            have hgw := (HJ.out.rv.lt g rfl).2
            have gne : g ≠ wr.heap.size + 1 := by omega
            have gne' : wr.heap.size + 1 ≠ g := by omega
            have gne2 : g ≠ wr.heap.size := by omega
            have gne2' : wr.heap.size ≠ g := by omega
            have HX : Hid (Jr w ((((Wb.setCell ⟨g, a * 2, none⟩ (.int .i64 (u + 1))).setCell ⟨g, a * 2 + 1, none⟩ (.int .i64 nu)).setCell ⟨wr.heap.size + 1, 2, none⟩ (.int .i64 (a : Int))).setCell ⟨wr.heap.size + 1, 3, none⟩ (.int .i64 (u + 1))) (.slice (some ⟨g, 0, none⟩) m cv) (.slice (some ⟨gf, 0, none⟩) l cf) (.slice pu k cu) ⟨S.ps.set a (nu, u + 1), S.fr.take l⟩ (play s0 (js.take k))) := lent_end (w := w) (W6 := Wb) (S6 := ⟨S.ps, S.fr.take l⟩) (F := .slice (some ⟨gf, 0, none⟩) l cf) (U := .slice pu k cu) HML.out.1 JF ham (by have := HWS.out; omega) gne (fun c => HNN.out.2.1 (by cases c; rfl)) HNN.out.2.2 _ _
            have HRU : Hid (World.ownsRow ((((Wb.setCell ⟨g, a * 2, none⟩ (.int .i64 (u + 1))).setCell ⟨g, a * 2 + 1, none⟩ (.int .i64 nu)).setCell ⟨wr.heap.size + 1, 2, none⟩ (.int .i64 (a : Int))).setCell ⟨wr.heap.size + 1, 3, none⟩ (.int .i64 (u + 1))) w.heap.size 39 4 (.slice pu k cu) k ((play s0 (js.take k)).flatMap enc4)) := (by have h := HX.out.ru; rw [HPL.out] at h; exact h)
            have m0 : (0 : Int) ≤ (a : Int) := by omega
            have m1 : (a : Int) < (m : Int) := by omega
            have hlvA : decide ((120 : Int) ≤ (m : Int) - ((l : Int) + 1)) = false := decide_eq_false (by have := HML.out; unfold As.live at h2; omega)
            have l3 : (0 : Int) < (l : Int) + 1 := by omega
            have l0 : (0 : Int) ≤ (l : Int) := by omega
            have l1 : (l : Int) < (l : Int) + 1 := by omega
            have l2 : (l : Int) ≤ (cf : Int) := by omega
            unfold maxLen at hq2
            clear hlv e1 e2 e3 hat h1 h2 h0 hstep hrf hrv JF hgw ha hu hfl
            generalize S.num a = nn at *
            as_aux_lemma =>
              go_wp2_with fail
              rw [← hWb]
              clear hWb
              refine (HIN.out _).mono ?_
              rintro e Wb ⟨rfl, rfl⟩
              go_wp2_with (at_builtin; refine wpList_append_own_at _ (by rfl) _ _ 23 (by rfl) w.heap.size 39 i1 (.agg #[.int .i64 0, .int .i64 0, .int .i64 0, .int .i64 0]) 4 32 Try.underlying23 HI1.out.1 HI1.out.2.1 HI1.out.2.2.1 HI1.out.2.2.2 rfl (by omega) (.slice pu k cu) k _ (by rfl) (HRU.out.alloc _) ⟨Wb.heap.size, 0, none⟩ 1 1 (enc4 (0, 0, (a : Int), u + 1)) (by rfl) (by rfl) (World.news_of_block (heap_new' (by simp) _ _)) (by simp [enc4, Value.oneCell']) (by unfold maxLen; omega) (by omega) (by simp; have := HWS.out; have := HSW.out; omega) ?_; intro U' w9 hownU hgU hnU hatU)
              go_roundw
              case rel => exact ⟨k + 1, by omega, by go_num, jr_next HDK.out HS.out HST.out HX.out hownU hgU hatU⟩
              case measure => simp [intOf]; omega
      · have HST : Hid (step S (4, nu, p, t) = ((0, (m : Int) - (l : Int), 0, 0), S)) := by
          show _ = _
          simp [step, As.live, HML.out.1, HML.out.2]
        have HX : Hid (Jr w (((wr.alloc (.cells #[.int .i64 4, .int .i64 nu, .int .i64 p, .int .i64 t] 37)).alloc (.cells #[.int .i64 0, .int .i64 ((m : Int) - (l : Int)), .int .i64 0, .int .i64 0] 39)).alloc (.cells #[.int .i64 p, .int .i64 t] 35)) (.slice pv m cv) (.slice pf l cf) (.slice pu k cu) S (play s0 (js.take k))) := HJ.out.on (((below_new' _ _).trans ((below_new' _ _).mono (by simp))).trans ((below_new' _ _).mono (by simp; omega)))
        have HRU : Hid ((((wr.alloc (.cells #[.int .i64 4, .int .i64 nu, .int .i64 p, .int .i64 t] 37)).alloc (.cells #[.int .i64 0, .int .i64 ((m : Int) - (l : Int)), .int .i64 0, .int .i64 0] 39)).alloc (.cells #[.int .i64 p, .int .i64 t] 35)).ownsRow w.heap.size 39 4 (.slice pu k cu) k ((play s0 (js.take k)).flatMap enc4)) := by
          have h := HX.out.ru
          rw [HPL.out] at h
          exact h
        clear hWb
        as_aux_lemma =>
          go_wp2_with (at_builtin; (refine wpList_append_own_at _ (by rfl) _ _ 23 (by rfl) w.heap.size 39 i1 (.agg #[.int .i64 0, .int .i64 0, .int .i64 0, .int .i64 0]) 4 32 Try.underlying23 HI1.out.1 HI1.out.2.1 HI1.out.2.2.1 HI1.out.2.2.2 rfl (by omega) (.slice pu k cu) k _ (by rfl) (HRU.out.alloc _) ⟨wr.heap.size + 1 + 1 + 1, 0, none⟩ 1 1 (enc4 (0, (m : Int) - (l : Int), 0, 0)) (by rfl) (by rfl) (World.news_of_block (heap_new' (by simp) _ _)) (by simp [enc4, Value.oneCell']) (by unfold maxLen; omega) (by omega) (by simp; have := HWS.out; have := HSW.out; omega) ?_); intro U' w9 hownU hgU hnU hatU)
          go_roundw
          case rel => exact ⟨k + 1, by omega, by go_num, jr_next HDK.out HS.out HST.out HX.out hownU hgU hatU⟩
          case measure => simp [intOf]; omega
      
      · have z1 : (x == 1) = false := by simp; omega
        have z4 : (x == 4) = false := by simp; omega
        clear z1 z4
        rcases hx with rfl | rfl
        · by_cases h1 : 0 ≤ p ∧ p ≤ (m : Int) - 1
          · obtain ⟨j, rfl⟩ := Int.eq_ofNat_of_zero_le h1.1
            have hjm : j < m := by omega
            have H1 : Hid (∀ W, Calls Try.prog 14 #[.int .i64 (j : Int), .int .i64 0, .int .i64 ((m : Int) - 1)] W fun e w' => e = .returned (.bool true) ∧ ∃ n, w' = W.drewN n) := in_q (j : Int) 0 ((m : Int) - 1) true (decide_eq_true h1)
            have hrv := HJb.out.rv
            rw [HML.out.1] at hrv
            obtain ⟨g, cv', hpv⟩ := own_form0 hrv (by omega)
            simp only [Value.slice.injEq, true_and] at hpv
            obtain ⟨rfl, rfl⟩ := hpv
            have hbx := Jr.box (s := S) (by rw [HML.out.1]; exact HJb.out) (j := j) (by have := HML.out.1; omega)
            obtain ⟨x0, x1, xf⟩ := hbx
            have hgw := (HJ.out.rv.lt g rfl).2
            have gne : g ≠ wr.heap.size + 1 := by omega
            have gne' : wr.heap.size + 1 ≠ g := by omega
            obtain ⟨u, hu⟩ : ∃ u, S.turn j = u := ⟨_, rfl⟩
            obtain ⟨nn, hnn⟩ : ∃ nn, S.num j = nn := ⟨_, rfl⟩
            rw [hu] at x0
            rw [hnn] at x1
            have HU : Hid (S.turn j = u) := hu
            have HNn : Hid (S.num j = nn) := hnn
            have q3 : (0 : Int) ≤ (j : Int) := by omega
            have q4 : (j : Int) < (m : Int) := by omega
            clear hrv hgw hu hnn h1
            by_cases h2 : 1 ≤ t ∧ t ≤ u
            · by_cases h3 : nn = 0
              · skip
                have H2 : Hid (∀ W, Calls Try.prog 14 #[.int .i64 t, .int .i64 1, .int .i64 u] W fun e w' => e = .returned (.bool true) ∧ ∃ n, w' = W.drewN n) := in_q t 1 u true (decide_eq_true h2)
                have hc : chk S (j : Int) t = 17 := by unfold chk; rw [if_neg (by have := HML.out.1; omega), Int.toNat_natCast, HU.out, HNn.out, if_neg (by omega), if_pos (by omega)]
                have HST : Hid (step S (2, nu, (j : Int), t) = ((17, 0, 0, 0), S)) := by show _ = _; simp [step, lk, bk, hc]
                have HX : Hid (∀ W', Below Wb.heap.size Wb W' → Jr w (W'.setCell ⟨wr.heap.size + 1, 0, none⟩ (.int .i64 17)) (.slice (some ⟨g, 0, none⟩) m cv) (.slice pf l cf) (.slice pu k cu) S (play s0 (js.take k))) := fun W' b => (HJb.out.on b).far (Turn.setCell (S := fun k => k = wr.heap.size + 1) (Turn.refl _ _) (p := ⟨wr.heap.size + 1, 0, none⟩) rfl _) (by have := HWS.out; omega) HNN.out.1 HNN.out.2.1 HNN.out.2.2
                have HRU : Hid (∀ W', Below Wb.heap.size Wb W' → World.ownsRow (W'.setCell ⟨wr.heap.size + 1, 0, none⟩ (.int .i64 17)) w.heap.size 39 4 (.slice pu k cu) k ((play s0 (js.take k)).flatMap enc4)) := fun W' b => (by have h := (HX.out W' b).ru; rw [HPL.out] at h; exact h)
                subst h3
                clear h2 hc
                as_aux_lemma =>
                  go_wp2_with fail
                  rw [← hWb]
                  clear hWb
                  go_quiet (first | (go_at_call_of 14 (Value.int IntKind.i64 (j : Int)); refine Calls.quiet_of (H1.out _)) | (go_at_call_of 14 (Value.int IntKind.i64 t); refine Calls.quiet_of (H2.out _)))
                  go_wp2_with fail
                  go_quiet (fail)
                  go_wp2_with (at_builtin; refine wpList_append_own_at _ (by rfl) _ _ 23 (by rfl) w.heap.size 39 i1 (.agg #[.int .i64 0, .int .i64 0, .int .i64 0, .int .i64 0]) 4 32 Try.underlying23 HI1.out.1 HI1.out.2.1 HI1.out.2.2.1 HI1.out.2.2.2 rfl (by omega) (.slice pu k cu) k _ (by rfl) ((HRU.out _ (below_drewN (Below.refl _ _) _)).alloc _) ⟨Wb.heap.size, 0, none⟩ 1 1 (enc4 (17, 0, 0, 0)) (by rfl) (by rfl) (World.news_of_block (heap_new' (by first | simp | rfl) _ _)) (by simp [enc4, Value.oneCell']) (by unfold maxLen; omega) (by omega) (by simp; have := HWS.out; have := HSW.out; omega) ?_; intro U' w9 hownU hgU hnU hatU)
                  go_roundw
                  case rel => exact ⟨k + 1, by omega, by go_num, jr_next HDK.out HS.out HST.out (HX.out _ (below_drewN (Below.refl _ _) _)) hownU hgU hatU⟩
                  case measure => simp [intOf]; omega
              · by_cases h4 : u = t
                · subst h4
                  have H2 : Hid (∀ W, Calls Try.prog 14 #[.int .i64 u, .int .i64 1, .int .i64 u] W fun e w' => e = .returned (.bool true) ∧ ∃ n, w' = W.drewN n) := in_q u 1 u true (decide_eq_true h2)
                  have hc : chk S (j : Int) u = 0 := by unfold chk; rw [if_neg (by have := HML.out.1; omega), Int.toNat_natCast, HU.out, HNn.out, if_neg (by omega), if_neg (by omega)]
                  have HST : Hid (step S (2, nu, (j : Int), u) = ((0, nn, 0, 0), S)) := by show _ = _; simp [step, lk, hc, HNn.out]
                  have HX : Hid (∀ W', Below Wb.heap.size Wb W' → Jr w (W'.setCell ⟨wr.heap.size + 1, 1, none⟩ (.int .i64 nn)) (.slice (some ⟨g, 0, none⟩) m cv) (.slice pf l cf) (.slice pu k cu) S (play s0 (js.take k))) := fun W' b => (HJb.out.on b).far (Turn.setCell (S := fun k => k = wr.heap.size + 1) (Turn.refl _ _) (p := ⟨wr.heap.size + 1, 1, none⟩) rfl _) (by have := HWS.out; omega) HNN.out.1 HNN.out.2.1 HNN.out.2.2
                  have HRU : Hid (∀ W', Below Wb.heap.size Wb W' → World.ownsRow (W'.setCell ⟨wr.heap.size + 1, 1, none⟩ (.int .i64 nn)) w.heap.size 39 4 (.slice pu k cu) k ((play s0 (js.take k)).flatMap enc4)) := fun W' b => (by have h := (HX.out W' b).ru; rw [HPL.out] at h; exact h)
                  have hnz : (nn == 0) = false := by simpa using h3
                  clear h2 hc
                  as_aux_lemma =>
                    go_wp2_with fail
                    rw [← hWb]
                    clear hWb
                    go_quiet (first | (go_at_call_of 14 (Value.int IntKind.i64 (j : Int)); refine Calls.quiet_of (H1.out _)) | (go_at_call_of 14 (Value.int IntKind.i64 u); refine Calls.quiet_of (H2.out _)))
                    go_wp2_with fail
                    go_quiet (fail)
                    go_wp2_with (at_builtin; refine wpList_append_own_at _ (by rfl) _ _ 23 (by rfl) w.heap.size 39 i1 (.agg #[.int .i64 0, .int .i64 0, .int .i64 0, .int .i64 0]) 4 32 Try.underlying23 HI1.out.1 HI1.out.2.1 HI1.out.2.2.1 HI1.out.2.2.2 rfl (by omega) (.slice pu k cu) k _ (by rfl) ((HRU.out _ (below_drewN (Below.refl _ _) _)).alloc _) ⟨Wb.heap.size, 0, none⟩ 1 1 (enc4 (0, nn, 0, 0)) (by rfl) (by rfl) (World.news_of_block (heap_new' (by first | simp | rfl) _ _)) (by simp [enc4, Value.oneCell']) (by unfold maxLen; omega) (by omega) (by simp; have := HWS.out; have := HSW.out; omega) ?_; intro U' w9 hownU hgU hnU hatU)
                    go_roundw
                    case rel => exact ⟨k + 1, by omega, by go_num, jr_next HDK.out HS.out HST.out (HX.out _ (below_drewN (Below.refl _ _) _)) hownU hgU hatU⟩
                    case measure => simp [intOf]; omega
                · skip
                  have H2 : Hid (∀ W, Calls Try.prog 14 #[.int .i64 t, .int .i64 1, .int .i64 u] W fun e w' => e = .returned (.bool true) ∧ ∃ n, w' = W.drewN n) := in_q t 1 u true (decide_eq_true h2)
                  have hc : chk S (j : Int) t = 17 := by unfold chk; rw [if_neg (by have := HML.out.1; omega), Int.toNat_natCast, HU.out, HNn.out, if_neg (by omega), if_pos (by omega)]
                  have HST : Hid (step S (2, nu, (j : Int), t) = ((17, 0, 0, 0), S)) := by show _ = _; simp [step, lk, bk, hc]
                  have HX : Hid (∀ W', Below Wb.heap.size Wb W' → Jr w (W'.setCell ⟨wr.heap.size + 1, 0, none⟩ (.int .i64 17)) (.slice (some ⟨g, 0, none⟩) m cv) (.slice pf l cf) (.slice pu k cu) S (play s0 (js.take k))) := fun W' b => (HJb.out.on b).far (Turn.setCell (S := fun k => k = wr.heap.size + 1) (Turn.refl _ _) (p := ⟨wr.heap.size + 1, 0, none⟩) rfl _) (by have := HWS.out; omega) HNN.out.1 HNN.out.2.1 HNN.out.2.2
                  have HRU : Hid (∀ W', Below Wb.heap.size Wb W' → World.ownsRow (W'.setCell ⟨wr.heap.size + 1, 0, none⟩ (.int .i64 17)) w.heap.size 39 4 (.slice pu k cu) k ((play s0 (js.take k)).flatMap enc4)) := fun W' b => (by have h := (HX.out W' b).ru; rw [HPL.out] at h; exact h)
                  have hnz : (nn == 0) = false := by simpa using h3
                  have hut' : (u != t) = true := by simpa using h4
                  clear h2 hc
                  as_aux_lemma =>
                    go_wp2_with fail
                    rw [← hWb]
                    clear hWb
                    go_quiet (first | (go_at_call_of 14 (Value.int IntKind.i64 (j : Int)); refine Calls.quiet_of (H1.out _)) | (go_at_call_of 14 (Value.int IntKind.i64 t); refine Calls.quiet_of (H2.out _)))
                    go_wp2_with fail
                    go_quiet (fail)
                    go_wp2_with (at_builtin; refine wpList_append_own_at _ (by rfl) _ _ 23 (by rfl) w.heap.size 39 i1 (.agg #[.int .i64 0, .int .i64 0, .int .i64 0, .int .i64 0]) 4 32 Try.underlying23 HI1.out.1 HI1.out.2.1 HI1.out.2.2.1 HI1.out.2.2.2 rfl (by omega) (.slice pu k cu) k _ (by rfl) ((HRU.out _ (below_drewN (Below.refl _ _) _)).alloc _) ⟨Wb.heap.size, 0, none⟩ 1 1 (enc4 (17, 0, 0, 0)) (by rfl) (by rfl) (World.news_of_block (heap_new' (by first | simp | rfl) _ _)) (by simp [enc4, Value.oneCell']) (by unfold maxLen; omega) (by omega) (by simp; have := HWS.out; have := HSW.out; omega) ?_; intro U' w9 hownU hgU hnU hatU)
                    go_roundw
                    case rel => exact ⟨k + 1, by omega, by go_num, jr_next HDK.out HS.out HST.out (HX.out _ (below_drewN (Below.refl _ _) _)) hownU hgU hatU⟩
                    case measure => simp [intOf]; omega
            · skip
              have H2 : Hid (∀ W, Calls Try.prog 14 #[.int .i64 t, .int .i64 1, .int .i64 u] W fun e w' => e = .returned (.bool false) ∧ ∃ n, w' = W.drewN n) := in_q t 1 u false (decide_eq_false h2)
              have hc : chk S (j : Int) t = 6 := by unfold chk; rw [if_neg (by have := HML.out.1; omega), Int.toNat_natCast, HU.out, if_pos (by omega)]
              have HST : Hid (step S (2, nu, (j : Int), t) = ((6, 0, 0, 0), S)) := by show _ = _; simp [step, lk, bk, hc]
              have HX : Hid (∀ W', Below Wb.heap.size Wb W' → Jr w (W'.setCell ⟨wr.heap.size + 1, 0, none⟩ (.int .i64 6)) (.slice (some ⟨g, 0, none⟩) m cv) (.slice pf l cf) (.slice pu k cu) S (play s0 (js.take k))) := fun W' b => (HJb.out.on b).far (Turn.setCell (S := fun k => k = wr.heap.size + 1) (Turn.refl _ _) (p := ⟨wr.heap.size + 1, 0, none⟩) rfl _) (by have := HWS.out; omega) HNN.out.1 HNN.out.2.1 HNN.out.2.2
              have HRU : Hid (∀ W', Below Wb.heap.size Wb W' → World.ownsRow (W'.setCell ⟨wr.heap.size + 1, 0, none⟩ (.int .i64 6)) w.heap.size 39 4 (.slice pu k cu) k ((play s0 (js.take k)).flatMap enc4)) := fun W' b => (by have h := (HX.out W' b).ru; rw [HPL.out] at h; exact h)
              clear h2 hc
              as_aux_lemma =>
                go_wp2_with fail
                rw [← hWb]
                clear hWb
                go_quiet (first | (go_at_call_of 14 (Value.int IntKind.i64 (j : Int)); refine Calls.quiet_of (H1.out _)) | (go_at_call_of 14 (Value.int IntKind.i64 t); refine Calls.quiet_of (H2.out _)))
                go_wp2_with (at_builtin; refine wpList_append_own_at _ (by rfl) _ _ 23 (by rfl) w.heap.size 39 i1 (.agg #[.int .i64 0, .int .i64 0, .int .i64 0, .int .i64 0]) 4 32 Try.underlying23 HI1.out.1 HI1.out.2.1 HI1.out.2.2.1 HI1.out.2.2.2 rfl (by omega) (.slice pu k cu) k _ (by rfl) ((HRU.out _ (below_drewN (Below.refl _ _) _)).alloc _) ⟨Wb.heap.size, 0, none⟩ 1 1 (enc4 (6, 0, 0, 0)) (by rfl) (by rfl) (World.news_of_block (heap_new' (by first | simp | rfl) _ _)) (by simp [enc4, Value.oneCell']) (by unfold maxLen; omega) (by omega) (by simp; have := HWS.out; have := HSW.out; omega) ?_; intro U' w9 hownU hgU hnU hatU)
                go_roundw
                case rel => exact ⟨k + 1, by omega, by go_num, jr_next HDK.out HS.out HST.out (HX.out _ (below_drewN (Below.refl _ _) _)) hownU hgU hatU⟩
                case measure => simp [intOf]; omega
          · skip
            have H1 : Hid (∀ W, Calls Try.prog 14 #[.int .i64 p, .int .i64 0, .int .i64 ((m : Int) - 1)] W fun e w' => e = .returned (.bool false) ∧ ∃ n, w' = W.drewN n) := in_q p 0 ((m : Int) - 1) false (decide_eq_false h1)
            have hc : chk S p t = 6 := by unfold chk; rw [if_pos (by have := HML.out.1; omega)]
            have HST : Hid (step S (2, nu, p, t) = ((6, 0, 0, 0), S)) := by show _ = _; simp [step, lk, bk, hc]
            have HX : Hid (∀ W', Below Wb.heap.size Wb W' → Jr w (W'.setCell ⟨wr.heap.size + 1, 0, none⟩ (.int .i64 6)) (.slice pv m cv) (.slice pf l cf) (.slice pu k cu) S (play s0 (js.take k))) := fun W' b => (HJb.out.on b).far (Turn.setCell (S := fun k => k = wr.heap.size + 1) (Turn.refl _ _) (p := ⟨wr.heap.size + 1, 0, none⟩) rfl _) (by have := HWS.out; omega) HNN.out.1 HNN.out.2.1 HNN.out.2.2
            have HRU : Hid (∀ W', Below Wb.heap.size Wb W' → World.ownsRow (W'.setCell ⟨wr.heap.size + 1, 0, none⟩ (.int .i64 6)) w.heap.size 39 4 (.slice pu k cu) k ((play s0 (js.take k)).flatMap enc4)) := fun W' b => (by have h := (HX.out W' b).ru; rw [HPL.out] at h; exact h)
            clear h1 hc
            as_aux_lemma =>
              go_wp2_with fail
              rw [← hWb]
              clear hWb
              go_quiet ((go_at_call_of 14 (Value.int IntKind.i64 p); refine Calls.quiet_of (H1.out _)))
              go_wp2_with (at_builtin; refine wpList_append_own_at _ (by rfl) _ _ 23 (by rfl) w.heap.size 39 i1 (.agg #[.int .i64 0, .int .i64 0, .int .i64 0, .int .i64 0]) 4 32 Try.underlying23 HI1.out.1 HI1.out.2.1 HI1.out.2.2.1 HI1.out.2.2.2 rfl (by omega) (.slice pu k cu) k _ (by rfl) ((HRU.out _ (below_drewN (Below.refl _ _) _)).alloc _) ⟨Wb.heap.size, 0, none⟩ 1 1 (enc4 (6, 0, 0, 0)) (by rfl) (by rfl) (World.news_of_block (heap_new' (by first | simp | rfl) _ _)) (by simp [enc4, Value.oneCell']) (by unfold maxLen; omega) (by omega) (by simp; have := HWS.out; have := HSW.out; omega) ?_; intro U' w9 hownU hgU hnU hatU)
              go_roundw
              case rel => exact ⟨k + 1, by omega, by go_num, jr_next HDK.out HS.out HST.out (HX.out _ (below_drewN (Below.refl _ _) _)) hownU hgU hatU⟩
              case measure => simp [intOf]; omega
        · by_cases h1 : 0 ≤ p ∧ p ≤ (m : Int) - 1
          · obtain ⟨j, rfl⟩ := Int.eq_ofNat_of_zero_le h1.1
            have hjm : j < m := by omega
            have H1 : Hid (∀ W, Calls Try.prog 14 #[.int .i64 (j : Int), .int .i64 0, .int .i64 ((m : Int) - 1)] W fun e w' => e = .returned (.bool true) ∧ ∃ n, w' = W.drewN n) := in_q (j : Int) 0 ((m : Int) - 1) true (decide_eq_true h1)
            have hrv := HJb.out.rv
            rw [HML.out.1] at hrv
            obtain ⟨g, cv', hpv⟩ := own_form0 hrv (by omega)
            simp only [Value.slice.injEq, true_and] at hpv
            obtain ⟨rfl, rfl⟩ := hpv
            have hbx := Jr.box (s := S) (by rw [HML.out.1]; exact HJb.out) (j := j) (by have := HML.out.1; omega)
            obtain ⟨x0, x1, xf⟩ := hbx
            have hgw := (HJ.out.rv.lt g rfl).2
            have gne : g ≠ wr.heap.size + 1 := by omega
            have gne' : wr.heap.size + 1 ≠ g := by omega
            obtain ⟨u, hu⟩ : ∃ u, S.turn j = u := ⟨_, rfl⟩
            obtain ⟨nn, hnn⟩ : ∃ nn, S.num j = nn := ⟨_, rfl⟩
            rw [hu] at x0
            rw [hnn] at x1
            have HU : Hid (S.turn j = u) := hu
            have HNn : Hid (S.num j = nn) := hnn
            have q3 : (0 : Int) ≤ (j : Int) := by omega
            have q4 : (j : Int) < (m : Int) := by omega
            clear hrv hgw hu hnn h1
            by_cases h2 : 1 ≤ t ∧ t ≤ u
            · by_cases h3 : nn = 0
              · skip
                have H2 : Hid (∀ W, Calls Try.prog 14 #[.int .i64 t, .int .i64 1, .int .i64 u] W fun e w' => e = .returned (.bool true) ∧ ∃ n, w' = W.drewN n) := in_q t 1 u true (decide_eq_true h2)
                have hc : chk S (j : Int) t = 17 := by unfold chk; rw [if_neg (by have := HML.out.1; omega), Int.toNat_natCast, HU.out, HNn.out, if_neg (by omega), if_pos (by omega)]
                have HST : Hid (step S (3, nu, (j : Int), t) = ((17, 0, 0, 0), S)) := by show _ = _; simp [step, lk, bk, hc]
                have HX : Hid (∀ W', Below Wb.heap.size Wb W' → Jr w (W'.setCell ⟨wr.heap.size + 1, 0, none⟩ (.int .i64 17)) (.slice (some ⟨g, 0, none⟩) m cv) (.slice pf l cf) (.slice pu k cu) S (play s0 (js.take k))) := fun W' b => (HJb.out.on b).far (Turn.setCell (S := fun k => k = wr.heap.size + 1) (Turn.refl _ _) (p := ⟨wr.heap.size + 1, 0, none⟩) rfl _) (by have := HWS.out; omega) HNN.out.1 HNN.out.2.1 HNN.out.2.2
                have HRU : Hid (∀ W', Below Wb.heap.size Wb W' → World.ownsRow (W'.setCell ⟨wr.heap.size + 1, 0, none⟩ (.int .i64 17)) w.heap.size 39 4 (.slice pu k cu) k ((play s0 (js.take k)).flatMap enc4)) := fun W' b => (by have h := (HX.out W' b).ru; rw [HPL.out] at h; exact h)
                subst h3
                clear h2 hc
                as_aux_lemma =>
                  go_wp2_with fail
                  rw [← hWb]
                  clear hWb
                  go_quiet (first | (go_at_call_of 14 (Value.int IntKind.i64 (j : Int)); refine Calls.quiet_of (H1.out _)) | (go_at_call_of 14 (Value.int IntKind.i64 t); refine Calls.quiet_of (H2.out _)))
                  go_wp2_with fail
                  go_quiet (fail)
                  go_wp2_with (at_builtin; refine wpList_append_own_at _ (by rfl) _ _ 23 (by rfl) w.heap.size 39 i1 (.agg #[.int .i64 0, .int .i64 0, .int .i64 0, .int .i64 0]) 4 32 Try.underlying23 HI1.out.1 HI1.out.2.1 HI1.out.2.2.1 HI1.out.2.2.2 rfl (by omega) (.slice pu k cu) k _ (by rfl) ((HRU.out _ (below_drewN (Below.refl _ _) _)).alloc _) ⟨Wb.heap.size, 0, none⟩ 1 1 (enc4 (17, 0, 0, 0)) (by rfl) (by rfl) (World.news_of_block (heap_new' (by first | simp | rfl) _ _)) (by simp [enc4, Value.oneCell']) (by unfold maxLen; omega) (by omega) (by simp; have := HWS.out; have := HSW.out; omega) ?_; intro U' w9 hownU hgU hnU hatU)
                  go_roundw
                  case rel => exact ⟨k + 1, by omega, by go_num, jr_next HDK.out HS.out HST.out (HX.out _ (below_drewN (Below.refl _ _) _)) hownU hgU hatU⟩
                  case measure => simp [intOf]; omega
              · by_cases h4 : u = t
                · subst h4
                  have H2 : Hid (∀ W, Calls Try.prog 14 #[.int .i64 u, .int .i64 1, .int .i64 u] W fun e w' => e = .returned (.bool true) ∧ ∃ n, w' = W.drewN n) := in_q u 1 u true (decide_eq_true h2)
                  have hc : chk S (j : Int) u = 0 := by unfold chk; rw [if_neg (by have := HML.out.1; omega), Int.toNat_natCast, HU.out, HNn.out, if_neg (by omega), if_neg (by omega)]
                  have HST : Hid (step S (3, nu, (j : Int), u) = ((0, nn, 0, 0), ⟨S.ps.set j (0, u), S.fr ++ [j]⟩)) := by show _ = _; simp [step, lk, bk, hc, HNn.out, HU.out]
                  have HX : Hid (∀ W', Below Wb.heap.size Wb W' → Jr w (((W'.setCell ⟨wr.heap.size + 1, 1, none⟩ (.int .i64 nn)).setCell ⟨g, j * 2 + 1, none⟩ (.int .i64 0))) (.slice (some ⟨g, 0, none⟩) m cv) (.slice pf l cf) (.slice pu k cu) ⟨S.ps.set j (0, u), S.fr⟩ (play s0 (js.take k))) := fun W' b => Jr.clear HML.out.1 ((HJb.out.on b).far (Turn.setCell (S := fun k => k = wr.heap.size + 1) (Turn.refl _ _) (p := ⟨wr.heap.size + 1, 1, none⟩) rfl _) (by have := HWS.out; omega) HNN.out.1 HNN.out.2.1 HNN.out.2.2) hjm HU.out
                  have HRF : Hid (∀ W', Below Wb.heap.size Wb W' → World.ownsRow (((W'.setCell ⟨wr.heap.size + 1, 1, none⟩ (.int .i64 nn)).setCell ⟨g, j * 2 + 1, none⟩ (.int .i64 0))) w.heap.size 3 1 (.slice pf l cf) l (S.fr.map encF)) := fun W' b => (by have h := (HX.out W' b).rf; rw [HML.out.2] at h; exact h)
                  have HRN : Hid (∀ W', Below Wb.heap.size Wb W' → Res (((W'.setCell ⟨wr.heap.size + 1, 1, none⟩ (.int .i64 nn)).setCell ⟨g, j * 2 + 1, none⟩ (.int .i64 0))) (wr.heap.size + 1) (0, nn, 0, 0)) := fun W' b => (by
                    have h := heap_set (i := 1) (.int .i64 nn) (HRes.out.below b)
                    unfold Res
                    rw [RowKit.Below.heap_setCell _ _ _ _ gne']
                    simpa using h)
                  have hnz : (nn == 0) = false := by simpa using h3
                  clear h2 hc
                  as_aux_lemma =>
                    go_wp2_with fail
                    rw [← hWb]
                    clear hWb
                    go_quiet (first | (go_at_call_of 14 (Value.int IntKind.i64 (j : Int)); refine Calls.quiet_of (H1.out _)) | (go_at_call_of 14 (Value.int IntKind.i64 u); refine Calls.quiet_of (H2.out _)))
                    go_wp2_with fail
                    go_quiet (fail)
                    go_wp2_with (first
                      | (at_builtin; refine wpList_append_own_at _ (by rfl) _ _ 23 (by rfl) w.heap.size 39 i1 (.agg #[.int .i64 0, .int .i64 0, .int .i64 0, .int .i64 0]) 4 32 Try.underlying23 HI1.out.1 HI1.out.2.1 HI1.out.2.2.1 HI1.out.2.2.2 rfl (by omega) (.slice pu k cu) k _ (by rfl) (HRU6.out.alloc _) ⟨w6.heap.size, 0, none⟩ 1 1 (enc4 (0, nn, 0, 0)) (by rfl) (by rfl) (World.news_of_block (heap_new' (by first | simp | rfl) _ _)) (by simp [enc4, Value.oneCell']) (by unfold maxLen; omega) (by omega) (by simp; have := HX6.out.below.size; omega) ?_; intro U' w9 hownU hgU hnU hatU)
                      | (at_builtin; refine wpList_append_own_at _ (by rfl) _ _ 45 (by rfl) w.heap.size 3 i3 (.int .i64 0) 1 8 Try.underlying45 HI3.out.1 HI3.out.2.1 HI3.out.2.2.1 HI3.out.2.2.2 rfl (by omega) (.slice pf l cf) l _ (by rfl) ((HRF.out _ (below_drewN (Below.refl _ _) _)).alloc _) ⟨Wb.heap.size, 0, none⟩ 1 1 [encF j] (by rfl) (by rfl) (World.news_of_block (heap_new' (by first | simp | rfl) _ _)) (by simp [encF, Value.oneCell']) (by unfold maxLen; omega) (by omega) (by simp; have := HWS.out; have := HSW.out; omega) ?_; intro F' w6 hownF hgF hnF hatF; obtain ⟨g6, cap6, rfl, _, _⟩ := own_form hownF; obtain ⟨J6, t6⟩ := back_row (HX.out _ (below_drewN (Below.refl _ _) _)) HML.out.2 hownF hgF hatF; obtain ⟨y0, y1, y2, y3, yf⟩ := ((HRN.out _ (below_drewN (Below.refl _ _) _)).turn t6 HNN.out.2.1).cells; have HX6 : Hid (Jr w w6 (.slice (some ⟨g, 0, none⟩) m cv) (.slice (some ⟨g6, 0, none⟩) (l + 1) cap6) (.slice pu k cu) ⟨S.ps.set j (0, u), S.fr ++ [j]⟩ (play s0 (js.take k))) := J6; have HRU6 : Hid (w6.ownsRow w.heap.size 39 4 (.slice pu k cu) k ((play s0 (js.take k)).flatMap enc4)) := (by have h := HX6.out.ru; rw [HPL.out] at h; exact h)))
                    go_roundw
                    case rel => exact ⟨k + 1, by omega, by go_num, jr_next HDK.out HS.out HST.out HX6.out hownU hgU hatU⟩
                    case measure => simp [intOf]; omega
                · skip
                  have H2 : Hid (∀ W, Calls Try.prog 14 #[.int .i64 t, .int .i64 1, .int .i64 u] W fun e w' => e = .returned (.bool true) ∧ ∃ n, w' = W.drewN n) := in_q t 1 u true (decide_eq_true h2)
                  have hc : chk S (j : Int) t = 17 := by unfold chk; rw [if_neg (by have := HML.out.1; omega), Int.toNat_natCast, HU.out, HNn.out, if_neg (by omega), if_pos (by omega)]
                  have HST : Hid (step S (3, nu, (j : Int), t) = ((17, 0, 0, 0), S)) := by show _ = _; simp [step, lk, bk, hc]
                  have HX : Hid (∀ W', Below Wb.heap.size Wb W' → Jr w (W'.setCell ⟨wr.heap.size + 1, 0, none⟩ (.int .i64 17)) (.slice (some ⟨g, 0, none⟩) m cv) (.slice pf l cf) (.slice pu k cu) S (play s0 (js.take k))) := fun W' b => (HJb.out.on b).far (Turn.setCell (S := fun k => k = wr.heap.size + 1) (Turn.refl _ _) (p := ⟨wr.heap.size + 1, 0, none⟩) rfl _) (by have := HWS.out; omega) HNN.out.1 HNN.out.2.1 HNN.out.2.2
                  have HRU : Hid (∀ W', Below Wb.heap.size Wb W' → World.ownsRow (W'.setCell ⟨wr.heap.size + 1, 0, none⟩ (.int .i64 17)) w.heap.size 39 4 (.slice pu k cu) k ((play s0 (js.take k)).flatMap enc4)) := fun W' b => (by have h := (HX.out W' b).ru; rw [HPL.out] at h; exact h)
                  have hnz : (nn == 0) = false := by simpa using h3
                  have hut' : (u != t) = true := by simpa using h4
                  clear h2 hc
                  as_aux_lemma =>
                    go_wp2_with fail
                    rw [← hWb]
                    clear hWb
                    go_quiet (first | (go_at_call_of 14 (Value.int IntKind.i64 (j : Int)); refine Calls.quiet_of (H1.out _)) | (go_at_call_of 14 (Value.int IntKind.i64 t); refine Calls.quiet_of (H2.out _)))
                    go_wp2_with fail
                    go_quiet (fail)
                    go_wp2_with (at_builtin; refine wpList_append_own_at _ (by rfl) _ _ 23 (by rfl) w.heap.size 39 i1 (.agg #[.int .i64 0, .int .i64 0, .int .i64 0, .int .i64 0]) 4 32 Try.underlying23 HI1.out.1 HI1.out.2.1 HI1.out.2.2.1 HI1.out.2.2.2 rfl (by omega) (.slice pu k cu) k _ (by rfl) ((HRU.out _ (below_drewN (Below.refl _ _) _)).alloc _) ⟨Wb.heap.size, 0, none⟩ 1 1 (enc4 (17, 0, 0, 0)) (by rfl) (by rfl) (World.news_of_block (heap_new' (by first | simp | rfl) _ _)) (by simp [enc4, Value.oneCell']) (by unfold maxLen; omega) (by omega) (by simp; have := HWS.out; have := HSW.out; omega) ?_; intro U' w9 hownU hgU hnU hatU)
                    go_roundw
                    case rel => exact ⟨k + 1, by omega, by go_num, jr_next HDK.out HS.out HST.out (HX.out _ (below_drewN (Below.refl _ _) _)) hownU hgU hatU⟩
                    case measure => simp [intOf]; omega
            · skip
              have H2 : Hid (∀ W, Calls Try.prog 14 #[.int .i64 t, .int .i64 1, .int .i64 u] W fun e w' => e = .returned (.bool false) ∧ ∃ n, w' = W.drewN n) := in_q t 1 u false (decide_eq_false h2)
              have hc : chk S (j : Int) t = 6 := by unfold chk; rw [if_neg (by have := HML.out.1; omega), Int.toNat_natCast, HU.out, if_pos (by omega)]
              have HST : Hid (step S (3, nu, (j : Int), t) = ((6, 0, 0, 0), S)) := by show _ = _; simp [step, lk, bk, hc]
              have HX : Hid (∀ W', Below Wb.heap.size Wb W' → Jr w (W'.setCell ⟨wr.heap.size + 1, 0, none⟩ (.int .i64 6)) (.slice (some ⟨g, 0, none⟩) m cv) (.slice pf l cf) (.slice pu k cu) S (play s0 (js.take k))) := fun W' b => (HJb.out.on b).far (Turn.setCell (S := fun k => k = wr.heap.size + 1) (Turn.refl _ _) (p := ⟨wr.heap.size + 1, 0, none⟩) rfl _) (by have := HWS.out; omega) HNN.out.1 HNN.out.2.1 HNN.out.2.2
              have HRU : Hid (∀ W', Below Wb.heap.size Wb W' → World.ownsRow (W'.setCell ⟨wr.heap.size + 1, 0, none⟩ (.int .i64 6)) w.heap.size 39 4 (.slice pu k cu) k ((play s0 (js.take k)).flatMap enc4)) := fun W' b => (by have h := (HX.out W' b).ru; rw [HPL.out] at h; exact h)
              clear h2 hc
              as_aux_lemma =>
                go_wp2_with fail
                rw [← hWb]
                clear hWb
                go_quiet (first | (go_at_call_of 14 (Value.int IntKind.i64 (j : Int)); refine Calls.quiet_of (H1.out _)) | (go_at_call_of 14 (Value.int IntKind.i64 t); refine Calls.quiet_of (H2.out _)))
                go_wp2_with (at_builtin; refine wpList_append_own_at _ (by rfl) _ _ 23 (by rfl) w.heap.size 39 i1 (.agg #[.int .i64 0, .int .i64 0, .int .i64 0, .int .i64 0]) 4 32 Try.underlying23 HI1.out.1 HI1.out.2.1 HI1.out.2.2.1 HI1.out.2.2.2 rfl (by omega) (.slice pu k cu) k _ (by rfl) ((HRU.out _ (below_drewN (Below.refl _ _) _)).alloc _) ⟨Wb.heap.size, 0, none⟩ 1 1 (enc4 (6, 0, 0, 0)) (by rfl) (by rfl) (World.news_of_block (heap_new' (by first | simp | rfl) _ _)) (by simp [enc4, Value.oneCell']) (by unfold maxLen; omega) (by omega) (by simp; have := HWS.out; have := HSW.out; omega) ?_; intro U' w9 hownU hgU hnU hatU)
                go_roundw
                case rel => exact ⟨k + 1, by omega, by go_num, jr_next HDK.out HS.out HST.out (HX.out _ (below_drewN (Below.refl _ _) _)) hownU hgU hatU⟩
                case measure => simp [intOf]; omega
          · skip
            have H1 : Hid (∀ W, Calls Try.prog 14 #[.int .i64 p, .int .i64 0, .int .i64 ((m : Int) - 1)] W fun e w' => e = .returned (.bool false) ∧ ∃ n, w' = W.drewN n) := in_q p 0 ((m : Int) - 1) false (decide_eq_false h1)
            have hc : chk S p t = 6 := by unfold chk; rw [if_pos (by have := HML.out.1; omega)]
            have HST : Hid (step S (3, nu, p, t) = ((6, 0, 0, 0), S)) := by show _ = _; simp [step, lk, bk, hc]
            have HX : Hid (∀ W', Below Wb.heap.size Wb W' → Jr w (W'.setCell ⟨wr.heap.size + 1, 0, none⟩ (.int .i64 6)) (.slice pv m cv) (.slice pf l cf) (.slice pu k cu) S (play s0 (js.take k))) := fun W' b => (HJb.out.on b).far (Turn.setCell (S := fun k => k = wr.heap.size + 1) (Turn.refl _ _) (p := ⟨wr.heap.size + 1, 0, none⟩) rfl _) (by have := HWS.out; omega) HNN.out.1 HNN.out.2.1 HNN.out.2.2
            have HRU : Hid (∀ W', Below Wb.heap.size Wb W' → World.ownsRow (W'.setCell ⟨wr.heap.size + 1, 0, none⟩ (.int .i64 6)) w.heap.size 39 4 (.slice pu k cu) k ((play s0 (js.take k)).flatMap enc4)) := fun W' b => (by have h := (HX.out W' b).ru; rw [HPL.out] at h; exact h)
            clear h1 hc
            as_aux_lemma =>
              go_wp2_with fail
              rw [← hWb]
              clear hWb
              go_quiet ((go_at_call_of 14 (Value.int IntKind.i64 p); refine Calls.quiet_of (H1.out _)))
              go_wp2_with (at_builtin; refine wpList_append_own_at _ (by rfl) _ _ 23 (by rfl) w.heap.size 39 i1 (.agg #[.int .i64 0, .int .i64 0, .int .i64 0, .int .i64 0]) 4 32 Try.underlying23 HI1.out.1 HI1.out.2.1 HI1.out.2.2.1 HI1.out.2.2.2 rfl (by omega) (.slice pu k cu) k _ (by rfl) ((HRU.out _ (below_drewN (Below.refl _ _) _)).alloc _) ⟨Wb.heap.size, 0, none⟩ 1 1 (enc4 (6, 0, 0, 0)) (by rfl) (by rfl) (World.news_of_block (heap_new' (by first | simp | rfl) _ _)) (by simp [enc4, Value.oneCell']) (by unfold maxLen; omega) (by omega) (by simp; have := HWS.out; have := HSW.out; omega) ?_; intro U' w9 hownU hgU hnU hatU)
              go_roundw
              case rel => exact ⟨k + 1, by omega, by go_num, jr_next HDK.out HS.out HST.out (HX.out _ (below_drewN (Below.refl _ _) _)) hownU hgU hatU⟩
              case measure => simp [intOf]; omega
      · have HST : Hid (step S (x, nu, p, t) = ((3, 0, 0, 0), S)) := by
          show _ = _
          simp [step, k1, k2, k3, k4]
        have HX : Hid (Jr w (((wr.alloc (.cells #[.int .i64 x, .int .i64 nu, .int .i64 p, .int .i64 t] 37)).alloc (.cells #[.int .i64 3, .int .i64 0, .int .i64 0, .int .i64 0] 39)).alloc (.cells #[.int .i64 p, .int .i64 t] 35)) (.slice pv m cv) (.slice pf l cf) (.slice pu k cu) S (play s0 (js.take k))) := HJ.out.on (((below_new' _ _).trans ((below_new' _ _).mono (by simp))).trans ((below_new' _ _).mono (by simp; omega)))
        have HRU : Hid ((((wr.alloc (.cells #[.int .i64 x, .int .i64 nu, .int .i64 p, .int .i64 t] 37)).alloc (.cells #[.int .i64 3, .int .i64 0, .int .i64 0, .int .i64 0] 39)).alloc (.cells #[.int .i64 p, .int .i64 t] 35)).ownsRow w.heap.size 39 4 (.slice pu k cu) k ((play s0 (js.take k)).flatMap enc4)) := by
          have h := HX.out.ru
          rw [HPL.out] at h
          exact h
        have z1 : (x == 1) = false := by simpa using k1
        have z4 : (x == 4) = false := by simpa using k4
        have z2 : (x != 2) = true := by simpa using k2
        have z3 : (x != 3) = true := by simpa using k3
        clear hWb k1 k2 k3 k4
        as_aux_lemma =>
          go_wp2_with (at_builtin; (refine wpList_append_own_at _ (by rfl) _ _ 23 (by rfl) w.heap.size 39 i1 (.agg #[.int .i64 0, .int .i64 0, .int .i64 0, .int .i64 0]) 4 32 Try.underlying23 HI1.out.1 HI1.out.2.1 HI1.out.2.2.1 HI1.out.2.2.2 rfl (by omega) (.slice pu k cu) k _ (by rfl) (HRU.out.alloc _) ⟨wr.heap.size + 1 + 1 + 1, 0, none⟩ 1 1 (enc4 (3, 0, 0, 0)) (by rfl) (by rfl) (World.news_of_block (heap_new' (by simp) _ _)) (by simp [enc4, Value.oneCell']) (by unfold maxLen; omega) (by omega) (by simp; have := HWS.out; have := HSW.out; omega) ?_); intro U' w9 hownU hgU hnU hatU)
          go_roundw
          case rel => exact ⟨k + 1, by omega, by go_num, jr_next HDK.out HS.out HST.out HX.out hownU hgU hatU⟩
          case measure => simp [intOf]; omega
      
    · obtain rfl : k = n := by omega
      have HD : Hid (FoundsAt wr u4 (play s0 js) ∧ Below w.heap.size w wr) := by
        have e : js.take k = js := by rw [← HNL.out]; exact List.take_length
        rw [e] at hJ
        exact ⟨founds_own hJ.ru, hJ.below⟩
      clear hJ
      go_wp2
      go_ret2
      exact ⟨_, rfl, HD.out⟩
end Go.Proofs.Ytchiajedajabnaa
