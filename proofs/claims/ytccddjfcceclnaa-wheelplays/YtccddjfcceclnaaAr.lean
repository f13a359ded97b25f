/-
  The document's three small functions over alarms.
-/
import Derived.Test.YtccddjfcceclnaaAl
namespace Go.Proofs.Ytccddjfcceclnaa
open Go.ChangeShapes Go.WideShapes Go.ChangeAt Go.RowKit Go.Maps
set_option linter.unusedVariables false
set_option linter.unusedSimpArgs false
theorem rint {k : IntKind} {a b : Int} (h : a = b) : Ending.returned (.int k a) = .returned (.int k b) := by rw [h]
theorem al_shape {w : World} {base : Nat} {e : TypeId} {size : Nat} {v : Value} {n : Nat} {xs : List Value} (h : w.ownsRow base e size v n xs) : ∃ p cap, v = .slice p n cap := by
  rcases h.2 with ⟨h1, h2⟩ | ⟨g, cap, cur, h1, _⟩
  · exact ⟨none, 0, by rw [h1, h2]⟩
  · exact ⟨_, cap, h1⟩
set_option maxHeartbeats 4000000 in
theorem alarmAt_any (v : Value) (l : List Tm) (x : Int) (w : World) (hv : AlAt w v l) (hl : l.length ≤ 2000) :
    Calls Try.prog 20 #[v, .int .i64 x] w fun e w' => e = .returned (.int .i64 (fa x l 0)) ∧ w' = w := by
  obtain ⟨p, cap, rfl, hp⟩ := hv
  obtain ⟨n, hnl⟩ : ∃ n, l.length = n := ⟨_, rfl⟩
  have HP : Hid (0 < l.length → ∃ g, p = some ⟨g, 0, none⟩ ∧ ∀ j (hj : j < l.length), g < w.heap.size ∧ w.cell? ⟨g, j * 2, none⟩ = some (.int .i64 l[j].i) ∧ w.cell? ⟨g, j * 2 + 1, none⟩ = some (.int .i64 l[j].a)) := hp
  have HNL : Hid (l.length = n) := hnl
  have hn2 : n ≤ 2000 := by omega
  rw [hnl]
  obtain ⟨R, hR⟩ : ∃ R, fa x l 0 = R := ⟨_, rfl⟩
  have HR : Hid (fa x l 0 = R) := hR
  rw [hR]
  clear hp hnl hl hR
  go_enter Try.func20, Try.ntmps20
  go_wp2
  go_loop [5] (fun i => ∃ k : Nat, k ≤ n ∧ i = .int .i64 (k : Nat) ∧ fa x (l.drop k) k = R) (fun i => n + 1 - (intOf i).toNat)
  case atStart => exact ⟨0, by omega, rfl, by rw [List.drop_zero]; exact HR.out⟩
  case round =>
    obtain ⟨k, hk, rfl, hf⟩ := hrel
    have HF : Hid (fa x (l.drop k) k = R) := hf
    clear hf
    by_cases hlt : k < n
    · have hkd : k < l.length := by have := HNL.out; omega
      obtain ⟨g, hg, hc⟩ := HP.out (by omega)
      obtain ⟨hgs, c0, c1⟩ := hc k hkd
      subst hg
      have HHit : Hid ((l[k].i : Int) = x → R = k) := fun h => HF.out.symm.trans (fa_hit hkd h)
      have HMiss : Hid ((l[k].i : Int) ≠ x → fa x (l.drop (k + 1)) (k + 1) = R) := fun h => (fa_miss hkd h).symm.trans HF.out
      obtain ⟨d, hdk⟩ : ∃ d : Nat, l[k].i = d := ⟨_, rfl⟩
      rw [hdk] at c0 HHit HMiss
      have i1 : (0 : Int) ≤ (k : Int) := by omega
      have i2 : (k : Int) < (n : Int) := by omega
      clear hc hdk c1 hgs hkd
      by_cases he : (d : Int) = x
      · have heb : ((d : Int) == x) = true := by simpa using he
        go_wp2
        go_ret
        exact ⟨rint (HHit.out he).symm, rfl⟩
      · have heb : ((d : Int) == x) = false := by simpa using he
        go_wp2
        go_round
        case rel => exact ⟨k + 1, by omega, by go_num, HMiss.out he⟩
        case measure => simp [intOf]; omega
    · obtain rfl : k = n := by omega
      have HX : Hid (R = -1) := by rw [← HF.out, ← HNL.out, List.drop_length]; exact rfl
      go_wp2
      go_ret
      exact ⟨rint HX.out.symm, rfl⟩
def SoonTo (l : List Tm) (k b : Nat) : Prop := ∃ h : b < l.length, (∀ j (hj : j < l.length), j < k → l[b].a ≤ l[j].a) ∧ ∀ j (hj : j < b), l[b].a < (l[j]'(by omega)).a
set_option maxHeartbeats 4000000 in
theorem earliest_any (v : Value) (l : List Tm) (w : World) (hv : AlAt w v l) (hl : l.length ≤ 2000) (h0 : 0 < l.length) :
    Calls Try.prog 22 #[v] w fun e w' => ∃ b : Nat, e = .returned (.int .i64 (b : Int)) ∧ Soon l b ∧ ∃ q, w' = w.drewN q := by
  obtain ⟨p, cap, rfl, hp⟩ := hv
  obtain ⟨g, rfl, hc⟩ := hp h0
  obtain ⟨n, hnl⟩ : ∃ n, l.length = n := ⟨_, rfl⟩
  have HC : Hid (∀ j (hj : j < l.length), g < w.heap.size ∧ w.cell? ⟨g, j * 2, none⟩ = some (.int .i64 l[j].i) ∧ w.cell? ⟨g, j * 2 + 1, none⟩ = some (.int .i64 l[j].a)) := hc
  have HNL : Hid (l.length = n) := hnl
  have hn2 : n ≤ 2000 := by omega
  have hn0 : 0 < n := by omega
  rw [hnl]
  have hst : SoonTo l 1 0 := ⟨h0, fun j hj h1 => (by
    have hj0 : j = 0 := by omega
    subst hj0
    exact Nat.le_refl _), fun j hj => by omega⟩
  have HST : Hid (SoonTo l 1 0) := hst
  clear hst
  clear hp hc hnl hl h0
  go_enter Try.func22, Try.ntmps22
  go_wp2
  go_loopw [3, 4] (fun b i wr => ∃ (k c : Nat), 1 ≤ k ∧ k ≤ n ∧ c < n ∧ b = .int .i64 (c : Nat) ∧ i = .int .i64 (k : Nat) ∧ SoonTo l k c ∧ ∃ q, wr = w.drewN q) (fun _ i _ => n + 1 - (intOf i).toNat)
  case atStart => exact ⟨1, 0, by omega, by omega, by omega, rfl, rfl, HST.out, 0, rfl⟩
  case round =>
    obtain ⟨k, c, hk1, hk, hc, rfl, rfl, hS, q, rfl⟩ := hrel
    have HS : Hid (SoonTo l k c) := hS
    clear hS HST
    by_cases hlt : k < n
    · have hkd : k < l.length := by have := HNL.out; omega
      have hcd : c < l.length := by have := HNL.out; omega
      have y1 := (HC.out k hkd).2.2
      have z1 := (HC.out c hcd).2.2
      have HNX1 : Hid (l[k].a < l[c].a → SoonTo l (k + 1) k) := fun h => ⟨hkd, fun j hj h1 => by
        rcases Nat.lt_or_ge j k with q | q
        · have := HS.out.2.1 j hj q; omega
        · have hjk : j = k := by omega
          subst hjk
          exact Nat.le_refl _, fun j hj => by have := HS.out.2.1 j (by omega) hj; omega⟩
      have HNX2 : Hid (¬ l[k].a < l[c].a → SoonTo l (k + 1) c) := fun h => ⟨hcd, fun j hj h1 => by
        rcases Nat.lt_or_ge j k with q | q
        · exact HS.out.2.1 j hj q
        · have hjk : j = k := by omega
          subst hjk
          omega, HS.out.2.2⟩
      obtain ⟨u, hu⟩ : ∃ u : Nat, l[k].a = u := ⟨_, rfl⟩
      obtain ⟨t, ht⟩ : ∃ u : Nat, l[c].a = u := ⟨_, rfl⟩
      rw [hu] at y1 HNX1 HNX2
      rw [ht] at z1 HNX1 HNX2
      have i1 : (0 : Int) ≤ (k : Int) := by omega
      have i2 : (k : Int) < (n : Int) := by omega
      have i3 : (0 : Int) ≤ (c : Int) := by omega
      have i4 : (c : Int) < (n : Int) := by omega
      clear hu ht hkd hcd
      by_cases he : u < t
      · have h1 : (u : Int) < (t : Int) := by omega
        have h2 : decide ((u : Int) < (t : Int)) = true := by simpa using he
        go_wp2_with fail
        go_quiet (fail)
        go_wp2
        go_roundw
        case rel => exact ⟨k + 1, k, by omega, by omega, by omega, rfl, by go_num, HNX1.out he, _, by first | rfl | (simp [World.drewN]; rfl)⟩
        case measure => simp [intOf]; omega
      · have h1 : ¬ (u : Int) < (t : Int) := by omega
        have h2 : decide ((u : Int) < (t : Int)) = false := by simpa using he
        go_wp2_with fail
        go_quiet (fail)
        go_wp2
        go_roundw
        case rel => exact ⟨k + 1, c, by omega, by omega, by omega, rfl, by go_num, HNX2.out he, _, by first | rfl | (simp [World.drewN]; rfl)⟩
        case measure => simp [intOf]; omega
    · obtain rfl : k = n := by omega
      have HX : Hid (Soon l c) := ⟨HS.out.1, fun j hj => HS.out.2.1 j hj (by have := HNL.out; omega), HS.out.2.2⟩
      go_wp2
      go_ret
      exact ⟨c, rfl, HX.out, q, rfl⟩
theorem infoA : (Try.prog.info? 56).map (fun i => (i.zero, i.size, i.bytes)) = some (some (.agg #[.int .i64 0, .int .i64 0]), 2, 16) := by kernel_rfl
theorem erase_take {l : List Tm} {k at_ : Nat} (h : k < l.length) : (l.take (k + 1)).eraseIdx at_ = if k = at_ then (l.take k).eraseIdx at_ else (l.take k).eraseIdx at_ ++ [l[k]] := by
  rw [List.take_succ_eq_append_getElem h]
  by_cases c : k = at_
  · rw [if_pos c, List.eraseIdx_append_of_length_le (by rw [List.length_take]; omega)]
    have e : at_ - (l.take k).length = 0 := by rw [List.length_take]; omega
    have e2 : (l.take k).eraseIdx at_ = l.take k := List.eraseIdx_of_length_le (by rw [List.length_take]; omega)
    rw [e, e2]
    simp only [List.eraseIdx_zero, List.tail_cons, List.append_nil]
  · rw [if_neg c]
    rcases Nat.lt_or_ge at_ k with q | q
    · rw [List.eraseIdx_append_of_lt_length (by rw [List.length_take]; omega)]
    · rw [List.eraseIdx_of_length_le (by simp; omega), List.eraseIdx_of_length_le (by rw [List.length_take]; omega)]
theorem grow_rowA {w wr w3 : World} {o : Obj} {u : Value} {n : Nat} {xs : List Value} {e : TypeId} {sz : Nat} (h : Below w.heap.size w wr) (hg : (wr.alloc o).grownBy w3 u.ownBlock) (hr : wr.ownsRow w.heap.size e sz u n xs) : Below w.heap.size w w3 := by
  have hs := h.size
  exact (h.alloc (by omega) o).grown hg (by simp; omega) (fun k hk => (hr.lt k hk).1)
set_option maxHeartbeats 4000000 in
theorem without_any (v : Value) (l : List Tm) (at_ : Nat) (w : World) (hv : AlAt w v l) (hl : l.length ≤ 2000) (ha : at_ < l.length) :
    Calls Try.prog 21 #[v, .int .i64 (at_ : Int)] w fun e w' => ∃ u, e = .returned u ∧ w'.ownsRow w.heap.size 56 2 u (l.eraseIdx at_).length ((l.eraseIdx at_).flatMap encA) ∧ Below w.heap.size w w' := by
  obtain ⟨p, cap, rfl, hp⟩ := hv
  obtain ⟨n, hnl⟩ : ∃ n, l.length = n := ⟨_, rfl⟩
  have HP : Hid (0 < l.length → ∃ g, p = some ⟨g, 0, none⟩ ∧ ∀ j (hj : j < l.length), g < w.heap.size ∧ w.cell? ⟨g, j * 2, none⟩ = some (.int .i64 l[j].i) ∧ w.cell? ⟨g, j * 2 + 1, none⟩ = some (.int .i64 l[j].a)) := hp
  have HNL : Hid (l.length = n) := hnl
  have hn2 : n ≤ 2000 := by omega
  have han : at_ < n := by omega
  obtain ⟨i0, a1, a2, a3, a4⟩ := info_parts infoA
  have HI : Hid (Try.prog.info? 56 = some i0 ∧ i0.zero = some (.agg #[.int .i64 0, .int .i64 0]) ∧ i0.size = 2 ∧ i0.bytes = 16) := ⟨a1, a2, a3, a4⟩
  rw [hnl]
  clear hp hnl hl ha a1 a2 a3 a4
  go_enter Try.func21, Try.ntmps21
  go_wp2
  go_loopw [5, 6] (fun u i wr => ∃ (k : Nat) (m : List Tm), k ≤ n ∧ i = .int .i64 (k : Nat) ∧ m = (l.take k).eraseIdx at_ ∧ m.length ≤ k ∧ wr.ownsRow w.heap.size 56 2 u m.length (m.flatMap encA) ∧ Below w.heap.size w wr) (fun _ i _ => n + 1 - (intOf i).toNat)
  case atStart => exact ⟨0, [], by omega, rfl, by simp, by simp, by simpa using World.ownsRow_nil w w.heap.size 56 2, Below.refl _ _⟩
  case round =>
    obtain ⟨k, m, hk, rfl, hm, hml, hrow, hB⟩ := hrel
    have HM : Hid (m = (l.take k).eraseIdx at_) := hm
    have HB : Hid (Below w.heap.size w wr) := hB
    clear hm
    by_cases hlt : k < n
    · have hkd : k < l.length := by have := HNL.out; omega
      obtain ⟨g, hg, hc⟩ := HP.out (by omega)
      obtain ⟨hgs, c0, c1⟩ := hc k hkd
      subst hg
      have HNX : Hid ((l.take (k + 1)).eraseIdx at_ = if k = at_ then m else m ++ [l[k]]) := by rw [erase_take hkd, ← HM.out]; exact rfl
      obtain ⟨d, hdk⟩ : ∃ d, l[k] = d := ⟨_, rfl⟩
      rw [hdk] at c0 c1 HNX
      have b0 : wr.cell? ⟨g, k * 2, none⟩ = some (.int .i64 d.i) := (hB.cell (p := ⟨g, k * 2, none⟩) hgs).trans c0
      have b1 : wr.cell? ⟨g, k * 2 + 1, none⟩ = some (.int .i64 d.a) := (hB.cell (p := ⟨g, k * 2 + 1, none⟩) hgs).trans c1
      have j1 : (0 : Int) ≤ (k : Int) := by omega
      have j2 : (k : Int) < (n : Int) := by omega
      obtain ⟨pu, cu, rfl⟩ := al_shape hrow
      obtain ⟨r, hr⟩ : ∃ r, m.length = r := ⟨_, rfl⟩
      rw [hr] at hrow ⊢
      have HROW : Hid (wr.ownsRow w.heap.size 56 2 (.slice pu r cu) r (m.flatMap encA)) := hrow
      have HRR : Hid (m.length = r ∧ r ≤ k) := ⟨hr, by omega⟩
      clear hc hdk c0 c1 hgs hB hkd hrow hr hml
      by_cases he : k = at_
      · subst he
        go_wp2
        go_roundw
        case rel => exact ⟨k + 1, m, by omega, by go_num, by rw [HNX.out, if_pos rfl], by have := HRR.out; omega, by rw [HRR.out.1]; exact HROW.out, HB.out⟩
        case measure => simp [intOf]; omega
      · have hb1 : ((k : Int) == (at_ : Int)) = false := by simp; omega
        have hb2 : ((k : Int) != (at_ : Int)) = true := by simp; omega
        have hb3 : (k = at_) = False := by simpa using he
        go_wp2_with (at_builtin; refine wpList_append_own_at _ (by rfl) _ _ 53 (by rfl) w.heap.size 56 i0 (.agg #[.int .i64 0, .int .i64 0]) 2 16 Try.underlying53 HI.out.1 HI.out.2.1 HI.out.2.2.1 HI.out.2.2.2 rfl (by omega) (.slice pu r cu) r (m.flatMap encA) (by rfl) (HROW.out.alloc _) ⟨wr.heap.size, 0, none⟩ 1 1 (encA d) (by rfl) (by rfl) (World.news_of_block (heap_alloc_new _ _)) (by simp [encA, Value.oneCell']) (by have := HRR.out; unfold maxLen; omega) (by have := HRR.out; omega) (by simp; have := HB.out.size; omega) ?_; intro v' w3 hown hgrow hiff hat; have HO : Hid (w3.ownsRow w.heap.size 56 2 v' (r + 1) (m.flatMap encA ++ encA d)) := hown; have HB3 : Hid (Below w.heap.size w w3) := grow_rowA HB.out hgrow HROW.out; obtain ⟨pv, cv, hvv⟩ := al_shape hown; subst hvv; clear hown hgrow hat hiff)
        go_roundw
        case rel => exact ⟨k + 1, m ++ [d], by omega, by go_num, by rw [HNX.out, if_neg he], by have := HRR.out; simp; omega, by rw [List.flatMap_append, List.flatMap_singleton, List.length_append, HRR.out.1]; exact HO.out, HB3.out⟩
        case measure => simp [intOf]; omega
    · obtain rfl : k = n := by omega
      obtain ⟨pu, cu, rfl⟩ := al_shape hrow
      have HX : Hid (m = l.eraseIdx at_) := by rw [HM.out, List.take_of_length_le (by have := HNL.out; omega)]; exact rfl
      have HROW : Hid (wr.ownsRow w.heap.size 56 2 (.slice pu m.length cu) m.length (m.flatMap encA)) := hrow
      clear hrow hB
      go_wp2
      go_ret
      exact ⟨_, rfl, by rw [← HX.out]; exact HROW.out, HB.out⟩
end Go.Proofs.Ytccddjfcceclnaa
