/-
  The walk of the document's play.
-/
import Derived.Test.YtccddjfcceclnaaPv
import Derived.Deep.CutRange
import Derived.Deep.LoopGhost
import Derived.OwnWalk
namespace Go.Proofs.Ytccddjfcceclnaa
open Go.ChangeShapes Go.WideShapes Go.ChangeAt Go.RowKit Go.Maps
set_option linter.unusedVariables false
set_option linter.unusedSimpArgs false
theorem st1a {s : Sp} {y z : Int} (h : y < 1 ∨ 1048576 < y) : step s (1, y, z) = (2, [], s) := by
  unfold step; rw [if_pos rfl, if_pos h]
theorem st1b {s : Sp} {y z : Int} (h : 1 ≤ y ∧ y ≤ 1048576) (h2 : z ≤ s.now ∨ 1099511627776 < z) : step s (1, y, z) = (12, [], s) := by
  unfold step; rw [if_pos rfl, if_neg (by (try dsimp only); omega), if_pos h2]
theorem st1c {s : Sp} {y z : Int} (h : 1 ≤ y ∧ y ≤ 1048576) (h2 : s.now < z ∧ z ≤ 1099511627776) (h3 : 1000 ≤ s.L.length) : step s (1, y, z) = (8, [], s) := by
  unfold step; rw [if_pos rfl, if_neg (by (try dsimp only); omega), if_neg (by (try dsimp only); omega), if_pos h3]
theorem st1d {s : Sp} {y z : Int} (h : 1 ≤ y ∧ y ≤ 1048576) (h2 : s.now < z ∧ z ≤ 1099511627776) (h3 : s.L.length < 1000) (h4 : s.has y = true) : step s (1, y, z) = (7, [], s) := by
  unfold step; rw [if_pos rfl, if_neg (by (try dsimp only); omega), if_neg (by (try dsimp only); omega), if_neg (by (try dsimp only); omega), if_pos h4]
theorem st1e {s : Sp} {y z : Nat} (h : 1 ≤ (y : Int) ∧ (y : Int) ≤ 1048576) (h2 : (s.now : Int) < z ∧ (z : Int) ≤ 1099511627776) (h3 : s.L.length < 1000) (h4 : s.has y = false) : step s (1, (y : Int), (z : Int)) = (0, [], ⟨s.now, s.ords + 1, s.L ++ [⟨y, z, s.ords + 1⟩]⟩) := by
  unfold step; rw [if_pos rfl, if_neg (by (try dsimp only); omega), if_neg (by (try dsimp only); omega), if_neg (by (try dsimp only); omega), if_neg (by simp [h4])]; rfl
theorem st2a {s : Sp} {y z : Int} (h : s.has y = false) : step s (2, y, z) = (6, [], s) := by
  unfold step; rw [if_neg (by simp), if_pos rfl, if_neg (by simp [h])]
theorem st2b {s : Sp} {y z : Int} {j : Nat} (g : Good s) (hj : j < s.L.length) (h : (s.L[j].i : Int) = y) : step s (2, y, z) = (0, [], ⟨s.now, s.ords, s.L.eraseIdx j⟩) := by
  have hh : s.has y = true := (s.has_iff _).2 ⟨s.L[j], List.getElem_mem _, h⟩
  unfold step; rw [if_neg (by simp), if_pos rfl, if_pos hh, erase_name hj g.apart, h]
theorem st3a {s : Sp} {y z : Int} (h : z < s.now ∨ 1099511627776 < z) : step s (3, y, z) = (12, [], s) := by
  unfold step; rw [if_neg (by simp), if_neg (by simp), if_pos rfl, if_pos h]
theorem st4 {s : Sp} {x y z : Int} (h1 : x ≠ 1) (h2 : x ≠ 2) (h3 : x ≠ 3) : step s (x, y, z) = (3, [], s) := by
  unfold step; rw [if_neg h1, if_neg h2, if_neg h3]
theorem fa_says (s : Sp) (y F : Int) (h : fa y s.L 0 = F) : (F < 0 ∧ s.has y = false) ∨ ∃ j : Nat, ∃ hj : j < s.L.length, F = (j : Int) ∧ (s.L[j].i : Int) = y ∧ s.has y = true := by
  rcases fa_has y s.L 0 with ⟨h1, h2⟩ | ⟨j, hj, h1, h2⟩
  · left
    refine ⟨by omega, ?_⟩
    have := (not_congr (s.has_iff y)).2 (by rintro ⟨t, ht, e⟩; exact h2 t ht e)
    simpa using this
  · exact Or.inr ⟨j, hj, by rw [← h, h1]; simp, h2, (s.has_iff _).2 ⟨s.L[j], List.getElem_mem _, h2⟩⟩
set_option maxRecDepth 100000 in
set_option maxHeartbeats 16000000 in
theorem played_any (now : Nat) (v : Value) (ds : List Dd) (w : World) (hd : Trips w v ds) (hn : now ≤ 1099511627776) (hl : ds.length ≤ 2000) :
    Calls Try.prog 10 #[.int .i64 now, v] w fun e w' => ∃ tv dv, e = .returned (.tuple #[tv, dv, .int .i64 0]) ∧ ListAt w' tv (codes ⟨now, 0, []⟩ ds) ∧ RowsAt w' dv (rows ⟨now, 0, []⟩ ds) ∧ Below w.heap.size w w' := by
  have HT : Hid (Say true (0 ≤ (now : Int) ∧ (now : Int) ≤ 1099511627776)) := Say.yes (by omega)
  obtain ⟨p, cap, hv, _, hp⟩ := hd
  subst hv
  obtain ⟨n, hnl⟩ : ∃ n, ds.length = n := ⟨_, rfl⟩
  have HP : Hid (0 < ds.length → ∃ g off, p = some ⟨g, off, none⟩ ∧ ∀ j (hj : j < ds.length), g < w.heap.size ∧ w.cell? ⟨g, off + j * 3, none⟩ = some (.int .i64 ds[j].1) ∧ w.cell? ⟨g, off + j * 3 + 1, none⟩ = some (.int .i64 ds[j].2.1) ∧ w.cell? ⟨g, off + j * 3 + 2, none⟩ = some (.int .i64 ds[j].2.2)) := hp
  have hl2 : decide ((2000 : Int) < (n : Int)) = false := by simp; omega
  have HNL : Hid (ds.length = n) := hnl
  have hn2000 : n ≤ 2000 := by omega
  have HG0 : Hid (Good ⟨now, 0, []⟩) := good_none (by unfold mt; exact hn)
  have HST : Hid (Pd w w ⟨now, 0, []⟩ ds 0 (.slice none 0 0) (.slice none 0 0) (.slice none 0 0) (fun _ => .slice none 0 0)) := pd_start w _ ds rfl
  obtain ⟨i0, c1, c2, c3, c4⟩ := info_parts infoA
  have HI0 : Hid (Try.prog.info? 56 = some i0 ∧ i0.zero = some (.agg #[.int .i64 0, .int .i64 0]) ∧ i0.size = 2 ∧ i0.bytes = 16) := ⟨c1, c2, c3, c4⟩
  obtain ⟨i3, f1, f2, f3, f4⟩ := info_parts info3
  have HI3 : Hid (Try.prog.info? 3 = some i3 ∧ i3.zero = some (.int .i64 0) ∧ i3.size = 1 ∧ i3.bytes = 8) := ⟨f1, f2, f3, f4⟩
  clear f1 f2 f3 f4
  obtain ⟨i1, a1, a2, a3, a4⟩ := info_parts info25
  obtain ⟨i2, a5, a6, a7, a8⟩ := info_parts info38
  have HI1 : Hid (Try.prog.info? 25 = some i1 ∧ i1.zero = some (.int .i64 0) ∧ i1.size = 1 ∧ i1.bytes = 8) := ⟨a1, a2, a3, a4⟩
  have HI2 : Hid (Try.prog.info? 38 = some i2 ∧ i2.zero = some (.slice none 0 0) ∧ i2.size = 1 ∧ i2.bytes = 24) := ⟨a5, a6, a7, a8⟩
  rw [hnl]
  clear hp hnl hl hn c1 c2 c3 c4 a1 a2 a3 a4 a5 a6 a7 a8
  go_enter Try.func10, Try.ntmps10
  go_wp2_with (go_at_call 18; refine (timeMay_any _ _ HT.out _).mono ?_; rintro e w ⟨rfl, rfl⟩)
  go_loopg [0, 7, 8, 9, 10] (n + 1) (fun gh nw cs du st i wr => ∃ (k : Nat) (us : Nat → Value), k ≤ n ∧ gh + k = n + 1 ∧ i = .int .i64 (k : Nat) ∧ nw = .int .i64 ((after ⟨now, 0, []⟩ (ds.take k)).now : Nat) ∧ Pd w wr ⟨now, 0, []⟩ ds k cs du st us)
  case atStart => exact ⟨0, _, by omega, by omega, rfl, rfl, HST.out⟩
  case round =>
    obtain ⟨k, us, hk, hgh, rfl, rfl, hL⟩ := hrel
    obtain ⟨pc, cc, rfl⟩ := al_shape hL.code
    obtain ⟨pd, cd, rfl⟩ := al_shape hL.due
    obtain ⟨ps, cst, rfl⟩ := al_shape hL.set
    by_cases hlt : k < n
    · have hkd : k < ds.length := by have := HNL.out; omega
      obtain ⟨g, off, hg, hc⟩ := HP.out (by omega)
      obtain ⟨hgs, c0, c1, c2⟩ := hc k hkd
      subst hg
      obtain ⟨s, hs⟩ : ∃ s, after ⟨now, 0, []⟩ (ds.take k) = s := ⟨_, rfl⟩
      have HS : Hid (after ⟨now, 0, []⟩ (ds.take k) = s) := hs
      have HGS : Hid (Good s) := by rw [← hs]; exact good_take HG0.out _
      have hset := hL.set
      rw [hs] at hset ⊢
      obtain ⟨x, y, z, hdk⟩ : ∃ x y z, ds[k] = (x, y, z) := ⟨_, _, _, rfl⟩
      rw [hdk] at c0 c1 c2
      have HDK : Hid (ds[k]? = some (x, y, z)) := by rw [List.getElem?_eq_getElem hkd, hdk]; exact rfl
      have b0 : wr.cell? ⟨g, off + k * 3, none⟩ = some (.int .i64 x) := (hL.below.cell (p := ⟨g, off + k * 3, none⟩) hgs).trans c0
      have b1 : wr.cell? ⟨g, off + k * 3 + 1, none⟩ = some (.int .i64 y) := (hL.below.cell (p := ⟨g, off + k * 3 + 1, none⟩) hgs).trans c1
      have b2 : wr.cell? ⟨g, off + k * 3 + 2, none⟩ = some (.int .i64 z) := (hL.below.cell (p := ⟨g, off + k * 3 + 2, none⟩) hgs).trans c2
      have j1 : (0 : Int) ≤ (k : Int) := by omega
      have j2 : (k : Int) < (n : Int) := by omega
      obtain ⟨r, hr⟩ : ∃ r, s.L.length = r := ⟨_, rfl⟩
      have HRL : Hid (s.L.length = r ∧ r ≤ 1000) := ⟨hr, by have := HGS.out.few; omega⟩
      obtain ⟨nw, hnw⟩ : ∃ m, s.now = m := ⟨_, rfl⟩
      have HNW : Hid (s.now = nw ∧ nw ≤ 1099511627776) := ⟨hnw, by have := HGS.out.now; unfold mt at this; omega⟩
      rw [hr] at hset ⊢
      rw [hnw]
      have HSET : Hid (wr.ownsRow w.heap.size 56 2 (.slice ps r cst) r (s.L.flatMap encA)) := hset
      have HL : Hid (Pd w wr ⟨now, 0, []⟩ ds k (.slice pc k cc) (.slice pd k cd) (.slice ps r cst) us) := by rw [hs, hr] at hL; exact hL
      clear hc hdk c0 c1 c2 hgs hkd hs hr hnw hset hL HST HT
      go_upto_if 33 with fail
      go_cut [0, 9, 12, 13] from 21 to 126 (fun nv st' e dv wx => Dn w (wr.alloc (.cells #[.int .i64 x, .int .i64 y, .int .i64 z] 36)) s (x, y, z) (.slice ps r cst) nv st' e dv wx)
      case first =>
        have HSAME : Hid (∀ q : Int, step s (x, y, z) = (q, [], s) → Dn w (wr.alloc (.cells #[.int .i64 x, .int .i64 y, .int .i64 z] 36)) s (x, y, z) (.slice ps r cst) (.int .i64 (nw : Nat)) (.slice ps r cst) (.int .i64 q) (.slice none 0 0) (wr.alloc (.cells #[.int .i64 x, .int .i64 y, .int .i64 z] 36))) := fun q h => dn_same HSET.out HRL.out.1 HL.out.below HNW.out.1 h
        have HAL : Hid (AlAt (wr.alloc (.cells #[.int .i64 x, .int .i64 y, .int .i64 z] 36)) (.slice ps r cst) s.L) := al_own (by rw [HRL.out.1]; exact HSET.out.alloc _)
        obtain ⟨F, hF⟩ : ∃ F, fa y s.L 0 = F := ⟨_, rfl⟩
        have HF : Hid _ := fa_says s y F hF
        have HC : Hid (Calls Try.prog 20 #[.slice ps r cst, .int .i64 y] (wr.alloc (.cells #[.int .i64 x, .int .i64 y, .int .i64 z] 36)) fun e w' => e = .returned (.int .i64 F) ∧ w' = (wr.alloc (.cells #[.int .i64 x, .int .i64 y, .int .i64 z] 36))) := by
          rw [← hF]; exact alarmAt_any _ _ _ _ HAL.out (by have := HRL.out; omega)
        clear hF b0 b1 b2
        rcases (by omega : x = 1 ∨ x = 2 ∨ x = 3 ∨ (x ≠ 1 ∧ x ≠ 2 ∧ x ≠ 3)) with rfl | rfl | rfl | hx
        · rcases (by omega : (y < 1 ∨ 1048576 < y) ∨ (1 ≤ y ∧ y ≤ 1048576)) with hy | hy
          · have HIN : Hid (Say false (1 ≤ y ∧ y ≤ 1048576)) := Say.no (by omega)
            have HY : Hid (y < 1 ∨ 1048576 < y) := hy
            clear hy
            go_wp2_with (go_at_call 19; refine (in_any _ _ _ _ HIN.out _).mono ?_; rintro e w2 ⟨rfl, rfl⟩)
            go_meet
            exact HSAME.out _ (st1a HY.out)
          · have HIN : Hid (Say true (1 ≤ y ∧ y ≤ 1048576)) := Say.yes hy
            have HY : Hid (1 ≤ y ∧ y ≤ 1048576) := hy
            clear hy
            rcases (by omega : z ≤ (nw : Int) ∨ ((nw : Int) < z ∧ 1099511627776 < z) ∨ ((nw : Int) < z ∧ z ≤ 1099511627776)) with hz | hz | hz
            · have hzd : decide (z ≤ (nw : Int)) = true := by simpa using hz
              have HZ : Hid (z ≤ (nw : Int)) := hz
              clear hz
              go_wp2_with (first | (go_at_call 19; refine (in_any _ _ _ _ HIN.out _).mono ?_; rintro e w2 ⟨rfl, rfl⟩) | (go_at_call 18; refine (timeMay_any _ _ HTM.out _).mono ?_; rintro e w2 ⟨rfl, rfl⟩))
              go_meet
              exact HSAME.out _ (st1b HY.out (Or.inl (by rw [HNW.out.1]; exact HZ.out)))
            · have hzd : decide (z ≤ (nw : Int)) = false := by simp; omega
              have HZ : Hid (1099511627776 < z) := hz.2
              have HTM : Hid (Say false (0 ≤ z ∧ z ≤ 1099511627776)) := Say.no (by omega)
              clear hz
              go_wp2_with (first | (go_at_call 19; refine (in_any _ _ _ _ HIN.out _).mono ?_; rintro e w2 ⟨rfl, rfl⟩) | (go_at_call 18; refine (timeMay_any _ _ HTM.out _).mono ?_; rintro e w2 ⟨rfl, rfl⟩))
              go_meet
              exact HSAME.out _ (st1b HY.out (Or.inr HZ.out))
            · have hzd : decide (z ≤ (nw : Int)) = false := by simp; omega
              have HZ : Hid ((s.now : Int) < z ∧ z ≤ 1099511627776) := by rw [HNW.out.1]; exact hz
              have HTM : Hid (Say true (0 ≤ z ∧ z ≤ 1099511627776)) := Say.yes (by omega)
              clear hz
              by_cases hr : 1000 ≤ r
              · have hr1 : decide ((1000 : Int) ≤ (r : Int)) = true := by simp; omega
                have hr2 : (1000 ≤ r) = True := by simpa using hr
                have HR : Hid (1000 ≤ r) := hr
                clear hr
                go_wp2_with (first | (go_at_call 19; refine (in_any _ _ _ _ HIN.out _).mono ?_; rintro e w2 ⟨rfl, rfl⟩) | (go_at_call 18; refine (timeMay_any _ _ HTM.out _).mono ?_; rintro e w2 ⟨rfl, rfl⟩))
                go_meet
                exact HSAME.out _ (st1c HY.out HZ.out (by have := HRL.out; have := HR.out; omega))
              · have hr1 : decide ((1000 : Int) ≤ (r : Int)) = false := by simp; omega
                have hr2 : (1000 ≤ r) = False := by simpa using hr
                have HR : Hid (s.L.length < 1000) := by have := HRL.out; show s.L.length < 1000; omega
                clear hr
                rcases HF.out with ⟨hF, hh⟩ | ⟨j, hj, hF, he, hh⟩
                · have hF1 : decide ((0 : Int) ≤ F) = false := by simpa using hF
                  have HH : Hid (s.has y = false) := hh
                  obtain ⟨yn, hyn⟩ : ∃ m : Nat, y = (m : Int) := ⟨y.toNat, by have := HY.out; omega⟩
                  obtain ⟨zn, hzn⟩ : ∃ m : Nat, z = (m : Int) := ⟨z.toNat, by have := HZ.out; omega⟩
                  subst hyn hzn
                  have HS0 : Hid (step s (1, (yn : Int), (zn : Int)) = (0, [], ⟨s.now, s.ords + 1, s.L ++ [⟨yn, zn, s.ords + 1⟩]⟩)) := st1e HY.out HZ.out HR.out HH.out
                  have hz3 : (zn ≤ nw) = False := by have := HZ.out; have := HNW.out; simp; omega
                  clear hh hF
                  go_wp2_with (first | (go_at_call 19; refine (in_any _ _ _ _ HIN.out _).mono ?_; rintro e w2 ⟨rfl, rfl⟩) | (go_at_call 18; refine (timeMay_any _ _ HTM.out _).mono ?_; rintro e w2 ⟨rfl, rfl⟩) | (go_at_call 20; refine HC.out.mono ?_; rintro e w2 ⟨rfl, rfl⟩) | (at_builtin; refine wpList_append_own_at _ (by rfl) _ _ 53 (by rfl) w.heap.size 56 i0 (.agg #[.int .i64 0, .int .i64 0]) 2 16 Try.underlying53 HI0.out.1 HI0.out.2.1 HI0.out.2.2.1 HI0.out.2.2.2 rfl (by omega) (.slice ps r cst) r (s.L.flatMap encA) (by rfl) ((HSET.out.alloc _).alloc _) ⟨(wr.alloc (.cells #[.int .i64 1, .int .i64 yn, .int .i64 zn] 36)).heap.size, 0, none⟩ 1 1 (encA ⟨yn, zn, s.ords + 1⟩) (by show Value.slice (some ⟨wr.heap.size + 1, 0, none⟩) 1 1 = _; simp) (by rfl) (World.news_of_block (heap_alloc_new _ _)) (by simp [encA, Value.oneCell']) (by have := HRL.out; unfold maxLen; omega) (by have := HRL.out; omega) (by have := HL.out.below.size; simp; omega) ?_; intro v' w3 hown hgrow hiff hat; have HDN : Hid (Dn w (wr.alloc (.cells #[.int .i64 1, .int .i64 yn, .int .i64 zn] 36)) s (1, (yn : Int), (zn : Int)) (.slice ps r cst) (.int .i64 (nw : Nat)) v' (.int .i64 0) (.slice none 0 0) w3) := dn_set HSET.out HRL.out.1 HL.out.below HNW.out.1 HS0.out hown hgrow hat; obtain ⟨pv, cv, hvv⟩ := al_shape hown; subst hvv; clear hown hgrow hat hiff))
                  go_meet
                  exact HDN.out
                · have hF1 : decide ((0 : Int) ≤ F) = true := by simp; omega
                  have HH : Hid (s.has y = true) := hh
                  clear hh he hF
                  go_wp2_with (first | (go_at_call 19; refine (in_any _ _ _ _ HIN.out _).mono ?_; rintro e w2 ⟨rfl, rfl⟩) | (go_at_call 18; refine (timeMay_any _ _ HTM.out _).mono ?_; rintro e w2 ⟨rfl, rfl⟩) | (go_at_call 20; refine HC.out.mono ?_; rintro e w2 ⟨rfl, rfl⟩))
                  go_meet
                  exact HSAME.out _ (st1d HY.out HZ.out HR.out HH.out)
        · rcases HF.out with ⟨hF, hh⟩ | ⟨j, hj, hF, he, hh⟩
          · have hF1 : decide (F < (0 : Int)) = true := by simpa using hF
            have HH : Hid (s.has y = false) := hh
            clear hh hF
            go_wp2_with (go_at_call 20; refine HC.out.mono ?_; rintro e w2 ⟨rfl, rfl⟩)
            go_meet
            exact HSAME.out _ (st2a HH.out)
          · subst hF
            have hF1 : decide ((j : Int) < (0 : Int)) = false := by simp
            have HS0 : Hid (step s (2, y, z) = (0, [], ⟨s.now, s.ords, s.L.eraseIdx j⟩)) := st2b HGS.out hj he
            have HJ : Hid (j < s.L.length) := hj
            clear hh he hj
            go_wp2_with (first | (go_at_call 20; refine HC.out.mono ?_; rintro e w2 ⟨rfl, rfl⟩) | (go_at_call 21; refine (without_any _ s.L j _ HAL.out (by have := HRL.out; omega) HJ.out).mono ?_; rintro e w3 ⟨u, rfl, hown, hbel⟩; have HDN : Hid (Dn w (wr.alloc (.cells #[.int .i64 2, .int .i64 y, .int .i64 z] 36)) s (2, y, z) (.slice ps r cst) (.int .i64 (nw : Nat)) u (.int .i64 0) (.slice none 0 0) w3) := dn_clear HL.out.below HNW.out.1 HS0.out hown hbel; obtain ⟨pv, cv, hvv⟩ := al_shape hown; subst hvv; clear hown hbel))
            go_meet
            exact HDN.out
        · rcases (by omega : z < (nw : Int) ∨ ((nw : Int) ≤ z ∧ 1099511627776 < z) ∨ ((nw : Int) ≤ z ∧ z ≤ 1099511627776)) with hz | hz | hz
          · have hzd : decide (z < (nw : Int)) = true := by simpa using hz
            have HZ : Hid (z < (nw : Int)) := hz
            clear hz
            go_wp2_with (go_at_call 18; refine (timeMay_any _ _ HTM.out _).mono ?_; rintro e w2 ⟨rfl, rfl⟩)
            go_meet
            exact HSAME.out _ (st3a (Or.inl (by rw [HNW.out.1]; exact HZ.out)))
          · have hzd : decide (z < (nw : Int)) = false := by simp; omega
            have HZ : Hid (1099511627776 < z) := hz.2
            have HTM : Hid (Say false (0 ≤ z ∧ z ≤ 1099511627776)) := Say.no (by omega)
            clear hz
            go_wp2_with (go_at_call 18; refine (timeMay_any _ _ HTM.out _).mono ?_; rintro e w2 ⟨rfl, rfl⟩)
            go_meet
            exact HSAME.out _ (st3a (Or.inr HZ.out))
          · have hzd : decide (z < (nw : Int)) = false := by simp; omega
            have HTM : Hid (Say true (0 ≤ z ∧ z ≤ 1099511627776)) := Say.yes (by omega)
            obtain ⟨N, hN⟩ : ∃ m : Nat, z = (m : Int) := ⟨z.toNat, by omega⟩
            subst hN
            have hz3 : (N < nw) = False := by simp; omega
            have HNN : Hid (s.now ≤ N ∧ N ≤ 1099511627776) := by have := HNW.out; exact ⟨by omega, by omega⟩
            have HPS : Hid (Po w (wr.alloc (.cells #[.int .i64 3, .int .i64 y, .int .i64 N] 36)) (wr.alloc (.cells #[.int .i64 3, .int .i64 y, .int .i64 N] 36)) N s s.L [] (.slice ps r cst) (.slice ps r cst) (.slice none 0 0)) := po_start HGS.out HSET.out HRL.out.1 HL.out.below
            have HW1 : Hid (w.heap.size ≤ (wr.alloc (.cells #[.int .i64 3, .int .i64 y, .int .i64 N] 36)).heap.size) := by have := HL.out.below.size; show _ ≤ _; simp; omega
            clear hz HSAME HAL HC HF
            obtain ⟨wq, hwq⟩ : ∃ wq, wq = wr := ⟨_, rfl⟩
            subst hwq
            go_wp2_with (go_at_call 18; refine (timeMay_any _ _ HTM.out _).mono ?_; rintro e w2 ⟨rfl, rfl⟩)
            go_loopg [9, 13] s.L.length (fun gh st' dv wx => ∃ l pre, gh = l.length ∧ Po w (wq.alloc (.cells #[.int .i64 3, .int .i64 y, .int .i64 N] 36)) wx N s l pre (.slice ps r cst) st' dv)
            case atStart => exact ⟨s.L, [], rfl, HPS.out⟩
            case round =>
              obtain ⟨l, pre, hgl, hpo⟩ := hrel
              obtain ⟨pt, ct, rfl⟩ := al_shape hpo.md.set
              obtain ⟨pv, cv, rfl⟩ := al_shape hpo.md.due
              have HAL : Hid (AlAt wr (.slice pt l.length ct) l) := al_own hpo.md.set
              obtain ⟨m, hm⟩ : ∃ m, l.length = m := ⟨_, rfl⟩
              obtain ⟨p, hp⟩ : ∃ p, pre.length = p := ⟨_, rfl⟩
              have HPO : Hid (Po w (wq.alloc (.cells #[.int .i64 3, .int .i64 y, .int .i64 N] 36)) wr N s l pre (.slice ps r cst) (.slice pt m ct) (.slice pv p cv)) := by have h := hpo; simp only [hm, hp] at h; exact h
              have HMP : Hid (l.length = m ∧ pre.length = p ∧ m + p ≤ 1000) := ⟨hm, hp, by have := hpo.few; omega⟩
              simp only [hm] at HAL hgl ⊢
              simp only [hp]
              clear hpo hm hp HPS
              by_cases h0 : m = 0
              · have h01 : decide ((0 : Int) < (m : Int)) = false := by simp; omega
                have h02 : (0 < m) = False := by simp; omega
                have HX : Hid (∀ t, t ∈ l → N < t.a) := by
                  have hl : l = [] := List.eq_nil_of_length_eq_zero (by have := HMP.out; omega)
                  subst hl
                  intro t ht
                  cases ht
                clear h0
                go_wp2
                go_meet
                exact dn_pass HPO.out HX.out rfl HNN.out.1 HNN.out.2
              · have h01 : decide ((0 : Int) < (m : Int)) = true := by simp; omega
                have h02 : (0 < m) = True := by simp; omega
                have HM0 : Hid (0 < l.length) := by have := HMP.out; show 0 < l.length; omega
                obtain ⟨p', cap', hv, hc⟩ := HAL.out
                obtain ⟨g2, rfl, hc2⟩ := hc HM0.out
                injection hv with hv1 hv2 hv3
                subst hv1
                have HCE : Hid (∀ j (hj : j < l.length), g2 < wr.heap.size ∧ wr.cell? ⟨g2, j * 2, none⟩ = some (.int .i64 l[j].i) ∧ wr.cell? ⟨g2, j * 2 + 1, none⟩ = some (.int .i64 l[j].a)) := hc2
                have HCa : Hid (Calls Try.prog 22 #[.slice (some ⟨g2, 0, none⟩) m ct] wr fun e w' => ∃ b : Nat, e = .returned (.int .i64 (b : Int)) ∧ Soon l b ∧ ∃ q, w' = wr.drewN q) := earliest_any _ l wr HAL.out (by have := HMP.out; omega) HM0.out
                have HCb : Hid (∀ q0, Calls Try.prog 22 #[.slice (some ⟨g2, 0, none⟩) m ct] (wr.drewN q0) fun e w' => ∃ b : Nat, e = .returned (.int .i64 (b : Int)) ∧ Soon l b ∧ ∃ q, w' = wr.drewN q) := fun q0 => (earliest_any _ l (wr.drewN q0) HAL.out (by have := HMP.out; omega) HM0.out).mono (by rintro e w' ⟨b, h1, h2, q, h3⟩; exact ⟨b, h1, h2, q0 + q, by rw [h3]; simp [World.drewN, Nat.add_assoc]⟩)
                clear hc hc2 hv2 hv3 h0
                by_cases hE : ∃ t, t ∈ l ∧ t.a ≤ N
                · have HE : Hid (∃ t, t ∈ l ∧ t.a ≤ N) := hE
                  clear hE
                  go_wp2_with (first | (go_at_call 21; refine (without_any _ l b2 w3 HAL3.out (by have := HMP.out; omega) HSO.out.1).mono ?_; rintro e w4 ⟨v4, rfl, hown, hbel⟩; have HNX : Hid _ := po_next HPO.out HW1.out HSO.out (soon_any HE.out HSO.out) HMP.out.2.1 HO3.out HG3.out hown hbel; obtain ⟨p4, c4, hvv⟩ := al_shape hown; subst hvv; clear hown hbel) | (go_at_call 22; refine (HCb.out q1).mono ?_; rintro e w2 ⟨b2, rfl, hb, q2, rfl⟩; have hbl := hb.1; have c2 := (HCE.out b2 hbl).2.1; obtain ⟨i5, hi5⟩ : ∃ u : Nat, (l[b2]'hbl).i = u := ⟨_, rfl⟩; have HI5 : Hid ((l[b2]'hbl).i = i5) := hi5; rw [hi5] at c2; have k5 : (0 : Int) ≤ (b2 : Int) := (by omega); have k6 : (b2 : Int) < (m : Int) := (by have := HMP.out; omega); have HSO : Hid (Soon l b2) := hb; clear hi5 hb) | (go_at_call 22; refine HCa.out.mono ?_; rintro e w2 ⟨b, rfl, hb, q1, rfl⟩; have hbl := hb.1; have c1 := (HCE.out b hbl).2.2; have hNb := soon_any HE.out hb; obtain ⟨u, hu⟩ : ∃ u : Nat, (l[b]'hbl).a = u := ⟨_, rfl⟩; rw [hu] at c1 hNb; have k1 : (0 : Int) ≤ (b : Int) := (by omega); have k2 : (b : Int) < (m : Int) := (by have := HMP.out; omega); have k3 : decide ((u : Int) ≤ (N : Int)) = true := (by simp; omega); have k4 : (u ≤ N) = True := (by simp; omega); clear hu hb hbl hNb) | (at_builtin; refine wpList_append_own_at _ (by rfl) _ _ 38 (by rfl) (wq.alloc (.cells #[.int .i64 3, .int .i64 y, .int .i64 N] 36)).heap.size 3 i3 (.int .i64 0) 1 8 Try.underlying38 HI3.out.1 HI3.out.2.1 HI3.out.2.2.1 HI3.out.2.2.2 rfl (by omega) (.slice pv p cv) p (pre.map fun t => .int .i64 (t.i : Int)) (by rfl) ((po_due HPO.out HMP.out.2.1 q2).alloc _) ⟨wr.heap.size, 0, none⟩ 1 1 [.int .i64 (i5 : Int)] (by rfl) (by rfl) (World.news_of_block (heap_alloc_new (wr.drewN q2) _)) (by simp [Value.oneCell']) (by have := HMP.out; unfold maxLen; omega) (by have := HMP.out; omega) (by have := HPO.out.md.size; simp [World.drewN] at this ⊢; omega) ?_; intro v3 w3 hown hgrow hiff hat; have HO3 : Hid (w3.ownsRow (wq.alloc (.cells #[.int .i64 3, .int .i64 y, .int .i64 N] 36)).heap.size 3 1 v3 (p + 1) ((pre.map fun t => .int .i64 (t.i : Int)) ++ [.int .i64 ((l[b2]'HSO.out.1).i : Int)])) := (by rw [HI5.out]; exact hown); have HG3 : Hid (((wr.drewN q2).alloc (.cells #[.int .i64 (i5 : Int)] 3)).grownBy w3 (Value.slice pv p cv).ownBlock) := hgrow; have HAL3 : Hid (AlAt w3 (.slice (some ⟨g2, 0, none⟩) m ct) l) := po_al HPO.out hgrow; obtain ⟨p3, c3, hvv⟩ := al_shape hown; subst hvv; clear hown hgrow hat hiff))
                  go_roundg (m - 1)
                  case measure => have := HMP.out; have := HM0.out; omega
                  case rel => exact ⟨_, _, by have := HMP.out; have := HSO.out.1; simp [List.length_eraseIdx, this]; omega, HNX.out⟩
                · have HX : Hid (∀ t, t ∈ l → N < t.a) := fun t ht => Nat.lt_of_not_le fun c => hE ⟨t, ht, c⟩
                  clear hE
                  go_wp2_with (go_at_call 22; refine HCa.out.mono ?_; rintro e w2 ⟨b, rfl, hb, q1, rfl⟩; have hbl := hb.1; have c1 := (HCE.out b hbl).2.2; have hNb := HX.out _ (List.getElem_mem hbl); obtain ⟨u, hu⟩ : ∃ u : Nat, (l[b]'hbl).a = u := ⟨_, rfl⟩; rw [hu] at c1 hNb; have k1 : (0 : Int) ≤ (b : Int) := (by omega); have k2 : (b : Int) < (m : Int) := (by have := HMP.out; omega); have k3 : decide ((u : Int) ≤ (N : Int)) = false := (by simp; omega); have k4 : (u ≤ N) = False := (by simp; omega); clear hu hb hbl hNb)
                  go_meet
                  exact dn_drew (dn_pass HPO.out HX.out rfl HNN.out.1 HNN.out.2) _
        · have hx1 : (x == 1) = false := by simp; omega
          have hx2 : (x == 2) = false := by simp; omega
          have hx3 : (x == 3) = false := by simp; omega
          have HX : Hid (x ≠ 1 ∧ x ≠ 2 ∧ x ≠ 3) := hx
          clear hx
          go_wp2
          go_meet
          exact HSAME.out _ (st4 HX.out.1 HX.out.2.1 HX.out.2.2)
      case rest =>
        obtain ⟨q, dl, s', hst, rfl, rfl, hdl, hm⟩ := hcut
        obtain ⟨pv, cv, rfl⟩ := al_shape hm.due
        obtain ⟨pt, ct, rfl⟩ := al_shape hm.set
        obtain ⟨e1, e2, e3⟩ := pd_in HL.out hm
        obtain ⟨m1, hm1⟩ : ∃ m, dl.length = m := ⟨_, rfl⟩
        obtain ⟨m2, hm2⟩ : ∃ m, s'.L.length = m := ⟨_, rfl⟩
        obtain ⟨m3, hm3⟩ : ∃ m, s'.now = m := ⟨_, rfl⟩
        have HST2 : Hid (step s (x, y, z) = (q, dl, s') ∧ dl.length ≤ 1000 ∧ s'.now = m3) := ⟨hst, hdl, hm3⟩
        have HWS : Hid (w.heap.size ≤ wc.heap.size) := hm.below.size
        rw [hm1, hm2] at hm
        rw [hm1, hm2, hm3]
        have HM : Hid (Md w (wr.alloc (.cells #[.int .i64 x, .int .i64 y, .int .i64 z] 36)) wc s' dl (.slice ps r cst) (.slice pt m2 ct) (.slice pv m1 cv)) := hm
        have HE1 : Hid (wc.ownsRow w.heap.size 25 1 (.slice pc k cc) k ((List.range k).map fun j => .int .i64 ((codes ⟨now, 0, []⟩ ds).getD j 0))) := e1
        clear e1 e2 e3 hm hst hdl hm1 hm2 hm3 b0 b1 b2
        go_wp2_with (first | (at_builtin; refine wpList_append_own_at _ (by rfl) _ _ 24 (by rfl) w.heap.size 38 i2 (.slice none 0 0) 1 24 Try.underlying24 HI2.out.1 HI2.out.2.1 HI2.out.2.2.1 HI2.out.2.2.2 rfl (by omega) (.slice pd k cd) k ((List.range k).map us) (by rfl) (HE2.out.1.alloc _) ⟨w3.heap.size, 0, none⟩ 1 1 [.slice pv m1 cv] (by rfl) (by rfl) (World.news_of_block (heap_alloc_new _ _)) (by simp [Value.oneCell']) (by unfold maxLen; omega) (by omega) (by have := HE2.out.2; simp; omega) ?_; intro v5 w5 hown hgrow hiff hat; have HO5 : Hid (w5.ownsRow w.heap.size 38 1 v5 (k + 1) ((List.range k).map us ++ [.slice pv m1 cv])) := hown; have HG5 : Hid ((w3.alloc (.cells #[.slice pv m1 cv] 38)).grownBy w5 (Value.slice pd k cd).ownBlock ∧ (v5.ownBlock = (Value.slice pd k cd).ownBlock ∨ v5.ownBlock = some (w3.alloc (.cells #[.slice pv m1 cv] 38)).heap.size)) := ⟨hgrow, hat⟩; obtain ⟨p5, c5, hvv⟩ := al_shape hown; subst hvv; clear hown hgrow hat hiff) | (at_builtin; refine wpList_append_own_at _ (by rfl) _ _ 23 (by rfl) w.heap.size 25 i1 (.int .i64 0) 1 8 Try.underlying23 HI1.out.1 HI1.out.2.1 HI1.out.2.2.1 HI1.out.2.2.2 rfl (by omega) (.slice pc k cc) k ((List.range k).map fun j => .int .i64 ((codes ⟨now, 0, []⟩ ds).getD j 0)) (by rfl) (HE1.out.alloc _) ⟨wc.heap.size, 0, none⟩ 1 1 [.int .i64 q] (by rfl) (by rfl) (World.news_of_block (heap_alloc_new _ _)) (by simp [Value.oneCell']) (by unfold maxLen; omega) (by omega) (by have := HWS.out; simp; omega) ?_; intro v3 w3 hown hgrow hiff hat; have HO3 : Hid (w3.ownsRow w.heap.size 25 1 v3 (k + 1) (((List.range k).map fun j => .int .i64 ((codes ⟨now, 0, []⟩ ds).getD j 0)) ++ [.int .i64 q])) := hown; have HG3 : Hid ((wc.alloc (.cells #[.int .i64 q] 25)).grownBy w3 (Value.slice pc k cc).ownBlock ∧ (v3.ownBlock = (Value.slice pc k cc).ownBlock ∨ v3.ownBlock = some (wc.alloc (.cells #[.int .i64 q] 25)).heap.size)) := ⟨hgrow, hat⟩; have HE2 : Hid (w3.ownsRow w.heap.size 38 1 (.slice pd k cd) k ((List.range k).map us) ∧ w.heap.size ≤ w3.heap.size) := pd_in2 HL.out HM.out hgrow; obtain ⟨p3, c3, hvv⟩ := al_shape hown; subst hvv; clear hown hgrow hat hiff))
        go_roundg (gk - 1)
        case measure => omega
        case rel =>
          have hkd : k < ds.length := by have := HNL.out; omega
          have hdk : ds[k] = (x, y, z) := by have := HDK.out; rw [List.getElem?_eq_getElem hkd] at this; exact Option.some.inj this
          have hst : step (after ⟨now, 0, []⟩ (ds.take k)) ds[k] = (q, dl, s') := by rw [hdk, HS.out]; exact HST2.out.1
          refine ⟨k + 1, _, by omega, by omega, by go_num, ?_, Pd.step HL.out hkd hst ((Below.refl _ wr).alloc (Nat.le_refl _) _) HM.out HST2.out.2.1 HO3.out HG3.out.1 HG3.out.2 HO5.out HG5.out.1 HG5.out.2⟩
          rw [after_step ⟨now, 0, []⟩ ds k hkd, hst, HST2.out.2.2]
    · obtain rfl : k = n := by omega
      have HX : Hid (ListAt wr (.slice pc k cc) (codes ⟨now, 0, []⟩ ds) ∧ RowsAt wr (.slice pd k cd) (rows ⟨now, 0, []⟩ ds) ∧ Below w.heap.size w wr) := ⟨(hL.done HNL.out).1, (hL.done HNL.out).2, hL.below⟩
      clear hL
      go_wp2
      go_ret3
      exact ⟨_, _, rfl, HX.out⟩
end Go.Proofs.Ytccddjfcceclnaa
