/-
  The walks of the laws WheelFar and WheelClear.
-/
import Derived.Test.YtccddjfcceclnaaSi
namespace Go.Proofs.Ytccddjfcceclnaa
open Go.ChangeShapes Go.WideShapes Go.ChangeAt Go.RowKit
set_option linter.unusedVariables false
set_option linter.unusedSimpArgs false
theorem ListAt.below {w w' : World} {v : Value} {zs : List Int} (h : ListAt w v zs) (b : Below w.heap.size w w') : ListAt w' v zs := by
  rcases h with h | ⟨g, cap, h1, h2, h3⟩
  · exact Or.inl h
  · exact Or.inr ⟨g, cap, h1, Nat.lt_of_lt_of_le h2 b.size, fun j z hj => (b.cell (p := ⟨g, j, none⟩) h2).trans (h3 j z hj)⟩
theorem list_new (w : World) (cs : Array Value) (zs : List Int) (h : cs.toList = zs.map fun z => .int .i64 z) (n : Nat) (hn : n = zs.length) : ListAt (w.alloc (.cells cs 3)) (.slice (some ⟨w.heap.size, 0, none⟩) n n) zs := by
  subst hn
  have hb : (w.alloc (.cells cs 3)).heap[w.heap.size]? = some (.cells cs 3 (0, 0)) := by first | exact heap_alloc_new w _ | exact _root_.Go.heap_alloc_new w _
  refine Or.inr ⟨w.heap.size, zs.length, rfl, by simp, fun j z hj => ?_⟩
  rw [cell_of_row _ _ j cs 3 (0, 0) hb, ← Array.getElem?_toList, h, List.getElem?_map, hj]
  rfl
theorem srt_nil : srt [] = [] := by simp [srt]
theorem srt_single (t : Tm) : srt [t] = [t] := by simp [srt]
theorem two_one {t u : Tm} (e : t.o ≠ u.o) : ∀ a b, a ∈ [t, u] → b ∈ [t, u] → a.o = b.o → a = b := fun a b ha hb he => by
  simp at ha hb
  rcases ha with rfl | rfl <;> rcases hb with rfl | rfl
  · rfl
  · exact absurd he e
  · exact absurd he.symm e
  · rfl
theorem srt_pair {t u : Tm} (h : tle t u = true) (e : t.o ≠ u.o) : srt [t, u] = [t, u] := (srt_one (l := [t, u]) (m := [t, u]) (by simp [h]) (List.Perm.refl _) (two_one e)).symm
theorem srt_swap {t u : Tm} (h : tle u t = true) (e : t.o ≠ u.o) : srt [t, u] = [u, t] := (srt_one (l := [u, t]) (m := [t, u]) (by simp [h]) (List.Perm.swap _ _ _) (two_one e)).symm
theorem far_play (now a : Nat) (h : now < a) (h2 : a ≤ 1099511627776) :
    codes ⟨now, 0, []⟩ [(1, 7, (a : Int)), (3, 0, (a : Int) - 1), (3, 0, (a : Int))] = [0, 0, 0] ∧ rows ⟨now, 0, []⟩ [(1, 7, (a : Int)), (3, 0, (a : Int) - 1), (3, 0, (a : Int))] = [[], [], [7]] := by
  have h3 : ¬ (a : Int) ≤ (now : Int) := by omega
  have h4 : ¬ 1099511627776 < (a : Int) := by omega
  have h5 : ¬ (a : Int) - 1 < (now : Int) := by omega
  have h6 : ¬ 1099511627776 < (a : Int) - 1 := by omega
  have h7 : ¬ (a : Int) ≤ (a : Int) - 1 := by omega
  have h8 : ¬ a < a - 1 := by omega
  constructor
  · simp [codes, play, step, Sp.has, h3, h4, h5, h6, h7, h8, srt_nil, srt_single]
  · simp [rows, play, step, Sp.has, h3, h4, h5, h6, h7, h8, srt_nil, srt_single]
def clearDeeds (now at' th : Nat) : List Dd := [(1, 3, (at' : Int)), (1, 4, (at' : Int)), (2, 3, 0), (2, 3, 0), (1, 3, (th : Int)), (3, 0, (now : Int) + 2097152)]
theorem clear_play (now at' th : Nat) (h0 : now < 549755813888) (h1 : now < at') (h2 : at' ≤ now + 1048576) (h3 : now < th) (h4 : th ≤ now + 1048576) :
    codes ⟨now, 0, []⟩ (clearDeeds now at' th) = [0, 0, 0, 6, 0, 0] ∧ rows ⟨now, 0, []⟩ (clearDeeds now at' th) = [[], [], [], [], [], if th < at' then [3, 4] else [4, 3]] := by
  have a1 : ¬ (at' : Int) ≤ (now : Int) := by omega
  have a2 : ¬ 1099511627776 < (at' : Int) := by omega
  have a3 : ¬ (th : Int) ≤ (now : Int) := by omega
  have a4 : ¬ 1099511627776 < (th : Int) := by omega
  have a5 : ¬ (now : Int) + 2097152 < (now : Int) := by omega
  have a6 : ¬ 1099511627776 < (now : Int) + 2097152 := by omega
  have a7 : (at' : Int) ≤ (now : Int) + 2097152 := by omega
  have a8 : (th : Int) ≤ (now : Int) + 2097152 := by omega
  have hs : srt [⟨4, at', 2⟩, ⟨3, th, 3⟩] = if th < at' then [⟨3, th, 3⟩, ⟨4, at', 2⟩] else [⟨4, at', 2⟩, ⟨3, th, 3⟩] := by
    by_cases c : th < at'
    · rw [if_pos c]
      exact srt_swap (by rw [tle_iff]; left; exact c) (by simp)
    · rw [if_neg c]
      exact srt_pair (by rw [tle_iff]; show at' < th ∨ (at' = th ∧ 2 ≤ 3); omega) (by simp)
  constructor
  · simp [clearDeeds, codes, play, step, Sp.has, a1, a2, a3, a4, a5, a6, a7, a8]
  · simp [clearDeeds, rows, play, step, Sp.has, a1, a2, a3, a4, a5, a6, a7, a8, hs]
    split <;> simp
set_option maxHeartbeats 4000000 in
theorem wheelFar_walk (a b : Int) (w : World) (ha : wfI a) (hb : wfI b) : Calls Try.prog 6 #[.int .i64 a, .int .i64 b] w fun e w' => e = .returned (.bool true) ∧ Below w.heap.size w w' := by
  have HA : Hid (wfI a) := ha
  have HB : Hid (wfI b) := hb
  clear ha hb
  go_enter Try.func6, Try.ntmps6
  go_wp2_with fail
  refine (picked_nat a _ 1099511627776 rfl _ HA.out (by omega) (by omega)).mono ?_
  rintro e w ⟨x, hx, hx2, rfl, rfl⟩
  clear hx
  go_wp2_with fail
  refine (picked_nat b _ (1099511627776 - x) (by omega) _ HB.out (by omega) (by omega)).mono ?_
  rintro e w ⟨k, hk, hk2, rfl, rfl⟩
  clear hk
  go_wp2_with fail
  obtain ⟨t, ht⟩ : ∃ t : Nat, t = x + 1 + k := ⟨_, rfl⟩
  have ht2 : (x : Int) + 1 + (k : Int) = (t : Int) := by omega
  have hpl := far_play x t (by omega) (by omega)
  have hdd : DeedsAt (w.alloc (.cells #[.int .i64 1, .int .i64 7, .int .i64 t, .int .i64 3, .int .i64 0, .int .i64 (t - 1), .int .i64 3, .int .i64 0, .int .i64 t] 36)) (.slice (some ⟨w.heap.size, 0, none⟩) 3 3) [(1, 7, (t : Int)), (3, 0, (t : Int) - 1), (3, 0, (t : Int))] :=
    deeds_new w [.int .i64 1, .int .i64 7, .int .i64 t, .int .i64 3, .int .i64 0, .int .i64 (t - 1), .int .i64 3, .int .i64 0, .int .i64 t] _ rfl (fun j hj => by
      rcases (by simp at hj; omega : j = 0 ∨ j = 1 ∨ j = 2) with rfl | rfl | rfl <;> exact ⟨rfl, rfl, rfl⟩) 3 rfl
  simp only [ht2]
  refine (play_int _ x rfl _ _ _ hdd (fun d hd => by
    simp at hd
    unfold wfI
    rcases hd with rfl | rfl | rfl <;> dsimp only <;> omega) (by omega) (by simp)).mono ?_
  rw [hpl.1, hpl.2]
  rintro e w2 ⟨tv, dv, rfl, hT, hD, hB⟩
  obtain ⟨b, cap, rfl, hbs, hc⟩ := hT.form (by simp)
  obtain ⟨b', cap', us, rfl, hbs', hd⟩ := hD.form (by simp)
  have c0 := hc 0 0 rfl
  obtain ⟨d1, l1, _⟩ := hd 1 (by simp)
  obtain ⟨d2, l2, _⟩ := hd 2 (by simp)
  have HBB : Hid (Below w.heap.size w w2) := (below_new' w _).trans (hB.mono (by simp))
  obtain ⟨p1, q1, e1, _⟩ := l1.shape
  obtain ⟨p2, q2, e2, _⟩ := l2.shape
  have HL2 : Hid (ListAt w2 (us 2) [7]) := l2
  rw [e1] at d1
  clear hT hD hB hc hd hpl hdd ht2 l1 l2 e1 e2
  go_wp2_with (go_at_call 15; refine (sameInts_any _ _ [7] [7] _ (HL2.out.below (below_new' _ _)) (list_new w2 #[.int .i64 7] [7] rfl 1 rfl) (by simp) (by simp)).mono ?_; rintro e w3 ⟨rfl, m, rfl⟩)
  go_ret
  exact ⟨rfl, below_drewN (HBB.out.trans ((below_new' _ _).mono HBB.out.size)) m⟩
set_option maxHeartbeats 4000000 in
theorem wheelClear_walk (a b c : Int) (w : World) (ha : wfI a) (hb : wfI b) (hc : wfI c) : Calls Try.prog 8 #[.int .i64 a, .int .i64 b, .int .i64 c] w fun e w' => e = .returned (.bool true) ∧ Below w.heap.size w w' := by
  have HA : Hid (wfI a) := ha
  have HB : Hid (wfI b) := hb
  have HC : Hid (wfI c) := hc
  clear ha hb hc
  go_enter Try.func8, Try.ntmps8
  go_wp2_with fail
  refine (picked_nat a _ 549755813888 rfl _ HA.out (by omega) (by omega)).mono ?_
  rintro e w ⟨x, hx, hx2, rfl, rfl⟩
  clear hx
  go_wp2_with fail
  refine (picked_nat b _ 1048576 rfl _ HB.out (by omega) (by omega)).mono ?_
  rintro e w ⟨k, hk, hk2, rfl, rfl⟩
  clear hk
  go_wp2_with fail
  refine (picked_nat c _ 1048576 rfl _ HC.out (by omega) (by omega)).mono ?_
  rintro e w ⟨l, hl, hl2, rfl, rfl⟩
  clear hl
  go_wp2_with fail
  obtain ⟨t, ht⟩ : ∃ t : Nat, t = x + 1 + k := ⟨_, rfl⟩
  have ht2 : (x : Int) + 1 + (k : Int) = (t : Int) := by omega
  obtain ⟨u, hu⟩ : ∃ u : Nat, u = x + 1 + l := ⟨_, rfl⟩
  have hu2 : (x : Int) + 1 + (l : Int) = (u : Int) := by omega
  have hpl := clear_play x t u hx2 (by omega) (by omega) (by omega) (by omega)
  have hdd : DeedsAt (w.alloc (.cells #[.int .i64 1, .int .i64 3, .int .i64 t, .int .i64 1, .int .i64 4, .int .i64 t, .int .i64 2, .int .i64 3, .int .i64 0, .int .i64 2, .int .i64 3, .int .i64 0, .int .i64 1, .int .i64 3, .int .i64 u, .int .i64 3, .int .i64 0, .int .i64 (x + 2097152)] 36)) (.slice (some ⟨w.heap.size, 0, none⟩) 6 6) (clearDeeds x t u) :=
    deeds_new w [.int .i64 1, .int .i64 3, .int .i64 t, .int .i64 1, .int .i64 4, .int .i64 t, .int .i64 2, .int .i64 3, .int .i64 0, .int .i64 2, .int .i64 3, .int .i64 0, .int .i64 1, .int .i64 3, .int .i64 u, .int .i64 3, .int .i64 0, .int .i64 (x + 2097152)] _ rfl (fun j hj => by
      rcases (by simp [clearDeeds] at hj; omega : j = 0 ∨ j = 1 ∨ j = 2 ∨ j = 3 ∨ j = 4 ∨ j = 5) with rfl | rfl | rfl | rfl | rfl | rfl <;> exact ⟨rfl, rfl, rfl⟩) 6 rfl
  simp only [ht2, hu2]
  refine (play_int _ x rfl _ _ _ hdd (fun d hd => by
    simp [clearDeeds] at hd
    unfold wfI
    rcases hd with rfl | rfl | rfl | rfl | rfl | rfl <;> dsimp only <;> omega) (by omega) (by simp [clearDeeds])).mono ?_
  rw [hpl.1, hpl.2]
  rintro e w2 ⟨tv, dv, rfl, hT, hD, hB⟩
  obtain ⟨b, cap, rfl, hbs, hc⟩ := hT.form (by simp)
  obtain ⟨b', cap', us, rfl, hbs', hd⟩ := hD.form (by simp)
  have c2 := hc 2 0 rfl
  have c3 := hc 3 6 rfl
  have c4 := hc 4 0 rfl
  obtain ⟨d5, l5, _⟩ := hd 5 (by simp)
  have HBB : Hid (Below w.heap.size w w2) := (below_new' w _).trans (hB.mono (by simp))
  obtain ⟨p5, q5, e5, _⟩ := l5.shape
  have HL5 : Hid (ListAt w2 (us 5) (if u < t then [3, 4] else [4, 3])) := l5
  clear hT hD hB hc hd hpl hdd ht2 hu2 l5 e5
  by_cases hut : u < t
  · have i1 : (u : Int) < (t : Int) := by omega
    rw [if_pos hut] at HL5
    go_wp2_with (go_at_call 15; refine (sameInts_any _ _ [3, 4] [3, 4] _ (HL5.out.below (below_new' _ _)) (list_new w2 #[.int .i64 3, .int .i64 4] [3, 4] rfl 2 rfl) (by simp) (by simp)).mono ?_; rintro e w3 ⟨rfl, m, rfl⟩)
    go_ret
    exact ⟨rfl, below_drewN (HBB.out.trans ((below_new' _ _).mono HBB.out.size)) m⟩
  · have i1 : ¬ (u : Int) < (t : Int) := by omega
    rw [if_neg hut] at HL5
    go_wp2_with (go_at_call 15; refine (sameInts_any _ _ [4, 3] [4, 3] _ (HL5.out.below (below_new' _ _)) (list_new w2 #[.int .i64 4, .int .i64 3] [4, 3] rfl 2 rfl) (by simp) (by simp)).mono ?_; rintro e w3 ⟨rfl, m, rfl⟩)
    go_ret
    exact ⟨rfl, below_drewN (HBB.out.trans ((below_new' _ _).mono HBB.out.size)) m⟩
end Go.Proofs.Ytccddjfcceclnaa
