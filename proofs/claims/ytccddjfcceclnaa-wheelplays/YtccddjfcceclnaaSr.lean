/-
  The law's own comparisons: numbers, codes, rows of numbers.
-/
import Derived.Test.YtccddjfcceclnaaAr
import Derived.Test.YtccddjfcceclnaaSi
namespace Go.Proofs.Ytccddjfcceclnaa
open Go.ChangeShapes Go.WideShapes Go.ChangeAt Go.RowKit
set_option linter.unusedVariables false
set_option linter.unusedSimpArgs false
set_option maxHeartbeats 4000000 in
theorem lawInts_any (u v : Value) (xs ys : List Int) (w : World) (hu : ListAt w u xs) (hv : ListAt w v ys) (hx : xs.length ≤ 2000) (hy : ys.length ≤ 2000) :
    Calls Try.prog 23 #[u, v] w fun e w' => e = .returned (.bool (decide (xs = ys))) ∧ ∃ n, w' = w.drewN n := by
  obtain ⟨p, cap, rfl, hp⟩ := hu.shape
  obtain ⟨q, caq, rfl, hq⟩ := hv.shape
  clear hu hv
  by_cases hl : xs.length = ys.length
  · obtain ⟨n, hn⟩ : ∃ n, xs.length = n := ⟨_, rfl⟩
    have hm : ys.length = n := by omega
    have HP : Hid (0 < xs.length → ∃ b, p = some ⟨b, 0, none⟩ ∧ ∀ j (hj : j < xs.length), w.cell? ⟨b, j, none⟩ = some (.int .i64 xs[j])) := hp
    have HQ : Hid (0 < ys.length → ∃ b, q = some ⟨b, 0, none⟩ ∧ ∀ j (hj : j < ys.length), w.cell? ⟨b, j, none⟩ = some (.int .i64 ys[j])) := hq
    have HN : Hid (xs.length = n ∧ ys.length = n) := ⟨hn, hm⟩
    rw [hn, hm]
    have hn2 : n ≤ 2000 := by omega
    clear hp hq hl hn hm hx hy
    go_enter Try.func23, Try.ntmps23
    go_wp2
    go_loopw [5] (fun i wr => ∃ k : Nat, k ≤ n ∧ i = .int .i64 k ∧ (∀ j, j < k → xs[j]? = ys[j]?) ∧ ∃ m, wr = w.drewN m) (fun i _ => n + 1 - (intOf i).toNat)
    case atStart => exact ⟨0, by omega, rfl, by omega, 0, rfl⟩
    case round =>
      obtain ⟨k, hk, rfl, hj, m, rfl⟩ := hrel
      have HJ : Hid (∀ j, j < k → xs[j]? = ys[j]?) := hj
      clear hj
      by_cases hlt : k < n
      · have h1 : k < xs.length := by have := HN.out.1; omega
        have h2 : k < ys.length := by have := HN.out.2; omega
        obtain ⟨b, hb, hc⟩ := HP.out (by omega)
        obtain ⟨b', hb', hc'⟩ := HQ.out (by omega)
        subst hb hb'
        have c1 := hc k h1
        have c2 := hc' k h2
        obtain ⟨x, hx⟩ : ∃ x, xs[k] = x := ⟨_, rfl⟩
        obtain ⟨y, hy⟩ : ∃ y, ys[k] = y := ⟨_, rfl⟩
        rw [hx] at c1
        rw [hy] at c2
        have HX : Hid (xs[k]? = some x ∧ ys[k]? = some y) := ⟨by rw [List.getElem?_eq_getElem h1, hx], by rw [List.getElem?_eq_getElem h2, hy]⟩
        have i1 : (0 : Int) ≤ (k : Int) := by omega
        have i2 : (k : Int) < (n : Int) := by omega
        clear hc hc' hx hy h1 h2
        go_wp2_with fail
        go_quiet (fail)
        go_wp2
        · rename_i h
          go_ret
          refine ⟨?_, _, World.drewN_drewN _ _ _⟩
          have : ¬ xs = ys := fun e => by
            obtain ⟨q1, q2⟩ := HX.out
            rw [e, q2] at q1
            simp at q1
            subst q1
            simp at h
          simp [this]
        · rename_i h
          go_roundw
          case rel =>
            refine ⟨k + 1, by omega, by go_num, fun j hj => ?_, _, rfl⟩
            rcases Nat.lt_or_ge j k with c | c
            · exact HJ.out j c
            · obtain rfl : j = k := by omega
              rw [HX.out.1, HX.out.2]
              simpa using h
          case measure => simp [intOf]; omega
      · obtain rfl : k = n := by omega
        go_wp2
        go_ret
        have : xs = ys := List.ext_getElem? (fun j => by
          rcases Nat.lt_or_ge j k with c | c
          · exact HJ.out j c
          · rw [List.getElem?_eq_none (by have := HN.out.1; omega), List.getElem?_eq_none (by have := HN.out.2; omega)])
        exact ⟨by simp [this], m, rfl⟩
  · have hne : ¬ xs = ys := fun e => hl (by rw [e])
    have hl2 : ¬ (xs.length : Int) = (ys.length : Int) := by omega
    have hd : decide (xs = ys) = false := by simp [hne]
    rw [hd]
    have hl3 : ((xs.length : Int) != (ys.length : Int)) = true := by simp; omega
    clear hd hne hp hq
    go_enter Try.func23, Try.ntmps23
    go_wp2
    go_ret
    exact ⟨rfl, 0, rfl⟩
set_option maxHeartbeats 4000000 in
theorem lawErrs_any (u v : Value) (xs ys : List Int) (w : World) (hu : ListAt w u xs) (hv : ListAt w v ys) (hx : xs.length ≤ 2000) (hy : ys.length ≤ 2000) :
    Calls Try.prog 11 #[u, v] w fun e w' => e = .returned (.bool (decide (xs = ys))) ∧ ∃ n, w' = w.drewN n := by
  obtain ⟨p, cap, rfl, hp⟩ := hu.shape
  obtain ⟨q, caq, rfl, hq⟩ := hv.shape
  clear hu hv
  by_cases hl : xs.length = ys.length
  · obtain ⟨n, hn⟩ : ∃ n, xs.length = n := ⟨_, rfl⟩
    have hm : ys.length = n := by omega
    have HP : Hid (0 < xs.length → ∃ b, p = some ⟨b, 0, none⟩ ∧ ∀ j (hj : j < xs.length), w.cell? ⟨b, j, none⟩ = some (.int .i64 xs[j])) := hp
    have HQ : Hid (0 < ys.length → ∃ b, q = some ⟨b, 0, none⟩ ∧ ∀ j (hj : j < ys.length), w.cell? ⟨b, j, none⟩ = some (.int .i64 ys[j])) := hq
    have HN : Hid (xs.length = n ∧ ys.length = n) := ⟨hn, hm⟩
    rw [hn, hm]
    have hn2 : n ≤ 2000 := by omega
    clear hp hq hl hn hm hx hy
    go_enter Try.func11, Try.ntmps11
    go_wp2
    go_loopw [5] (fun i wr => ∃ k : Nat, k ≤ n ∧ i = .int .i64 k ∧ (∀ j, j < k → xs[j]? = ys[j]?) ∧ ∃ m, wr = w.drewN m) (fun i _ => n + 1 - (intOf i).toNat)
    case atStart => exact ⟨0, by omega, rfl, by omega, 0, rfl⟩
    case round =>
      obtain ⟨k, hk, rfl, hj, m, rfl⟩ := hrel
      have HJ : Hid (∀ j, j < k → xs[j]? = ys[j]?) := hj
      clear hj
      by_cases hlt : k < n
      · have h1 : k < xs.length := by have := HN.out.1; omega
        have h2 : k < ys.length := by have := HN.out.2; omega
        obtain ⟨b, hb, hc⟩ := HP.out (by omega)
        obtain ⟨b', hb', hc'⟩ := HQ.out (by omega)
        subst hb hb'
        have c1 := hc k h1
        have c2 := hc' k h2
        obtain ⟨x, hx⟩ : ∃ x, xs[k] = x := ⟨_, rfl⟩
        obtain ⟨y, hy⟩ : ∃ y, ys[k] = y := ⟨_, rfl⟩
        rw [hx] at c1
        rw [hy] at c2
        have HX : Hid (xs[k]? = some x ∧ ys[k]? = some y) := ⟨by rw [List.getElem?_eq_getElem h1, hx], by rw [List.getElem?_eq_getElem h2, hy]⟩
        have i1 : (0 : Int) ≤ (k : Int) := by omega
        have i2 : (k : Int) < (n : Int) := by omega
        clear hc hc' hx hy h1 h2
        go_wp2_with fail
        go_quiet (fail)
        go_wp2
        · rename_i h
          go_ret
          refine ⟨?_, _, World.drewN_drewN _ _ _⟩
          have : ¬ xs = ys := fun e => by
            obtain ⟨q1, q2⟩ := HX.out
            rw [e, q2] at q1
            simp at q1
            subst q1
            simp at h
          simp [this]
        · rename_i h
          go_roundw
          case rel =>
            refine ⟨k + 1, by omega, by go_num, fun j hj => ?_, _, rfl⟩
            rcases Nat.lt_or_ge j k with c | c
            · exact HJ.out j c
            · obtain rfl : j = k := by omega
              rw [HX.out.1, HX.out.2]
              simpa using h
          case measure => simp [intOf]; omega
      · obtain rfl : k = n := by omega
        go_wp2
        go_ret
        have : xs = ys := List.ext_getElem? (fun j => by
          rcases Nat.lt_or_ge j k with c | c
          · exact HJ.out j c
          · rw [List.getElem?_eq_none (by have := HN.out.1; omega), List.getElem?_eq_none (by have := HN.out.2; omega)])
        exact ⟨by simp [this], m, rfl⟩
  · have hne : ¬ xs = ys := fun e => hl (by rw [e])
    have hl2 : ¬ (xs.length : Int) = (ys.length : Int) := by omega
    have hd : decide (xs = ys) = false := by simp [hne]
    rw [hd]
    have hl3 : ((xs.length : Int) != (ys.length : Int)) = true := by simp; omega
    clear hd hne hp hq
    go_enter Try.func11, Try.ntmps11
    go_wp2
    go_ret
    exact ⟨rfl, 0, rfl⟩
theorem RowsAt.shape {w : World} {v : Value} {rs : List (List Int)} (h : RowsAt w v rs) : ∃ p cap, v = .slice p rs.length cap ∧ (0 < rs.length → ∃ b, ∃ us : Nat → Value, p = some ⟨b, 0, none⟩ ∧ ∀ j (hj : j < rs.length), w.cell? ⟨b, j, none⟩ = some (us j) ∧ ListAt w (us j) rs[j] ∧ rs[j].length ≤ 1000) := by
  rcases h with ⟨h1, h2⟩ | ⟨b, cap, us, h1, h2, h3⟩
  · exact ⟨none, 0, by rw [h1, h2]; rfl, fun h => by rw [h2] at h; simp at h⟩
  · exact ⟨_, cap, h1, fun _ => ⟨b, us, rfl, fun j hj => h3 j hj⟩⟩
theorem lawInts_same (u v : Value) (xs : List Int) (w : World) (n : Nat) (hu : ListAt w u xs) (hv : ListAt w v xs) (hx : xs.length ≤ 1000) :
    Calls Try.prog 23 #[u, v] (w.drewN n) fun e w' => e = .returned (.bool true) ∧ ∃ m, w' = (w.drewN n).drewN m := by
  have h := lawInts_any u v xs xs (w.drewN n) hu hv (by omega) (by omega)
  simpa using h
set_option maxHeartbeats 4000000 in
theorem sameRows_same (u v : Value) (rs : List (List Int)) (w : World) (hu : RowsAt w u rs) (hv : RowsAt w v rs) (hx : rs.length ≤ 2000) :
    Calls Try.prog 12 #[u, v] w fun e w' => e = .returned (.bool true) ∧ ∃ n, w' = w.drewN n := by
  obtain ⟨p, cap, rfl, hp⟩ := hu.shape
  obtain ⟨q, caq, rfl, hq⟩ := hv.shape
  clear hu hv
  obtain ⟨n, hn⟩ : ∃ n, rs.length = n := ⟨_, rfl⟩
  have HP : Hid (0 < rs.length → ∃ b, ∃ us : Nat → Value, p = some ⟨b, 0, none⟩ ∧ ∀ j (hj : j < rs.length), w.cell? ⟨b, j, none⟩ = some (us j) ∧ ListAt w (us j) rs[j] ∧ rs[j].length ≤ 1000) := hp
  have HQ : Hid (0 < rs.length → ∃ b, ∃ us : Nat → Value, q = some ⟨b, 0, none⟩ ∧ ∀ j (hj : j < rs.length), w.cell? ⟨b, j, none⟩ = some (us j) ∧ ListAt w (us j) rs[j] ∧ rs[j].length ≤ 1000) := hq
  have HN : Hid (rs.length = n) := hn
  rw [hn]
  have hn2 : n ≤ 2000 := by omega
  clear hp hq hn hx
  go_enter Try.func12, Try.ntmps12
  go_wp2
  go_loopw [5] (fun i wr => ∃ k : Nat, k ≤ n ∧ i = .int .i64 k ∧ ∃ m, wr = w.drewN m) (fun i _ => n + 1 - (intOf i).toNat)
  case atStart => exact ⟨0, by omega, rfl, 0, rfl⟩
  case round =>
    obtain ⟨k, hk, rfl, m, rfl⟩ := hrel
    by_cases hlt : k < n
    · have h1 : k < rs.length := by have := HN.out; omega
      obtain ⟨b, us, hb, hc⟩ := HP.out (by omega)
      obtain ⟨b', us', hb', hc'⟩ := HQ.out (by omega)
      subst hb hb'
      obtain ⟨c1, l1, m1⟩ := hc k h1
      obtain ⟨c2, l2, m2⟩ := hc' k h1
      obtain ⟨x, hx⟩ : ∃ x, us k = x := ⟨_, rfl⟩
      obtain ⟨y, hy⟩ : ∃ y, us' k = y := ⟨_, rfl⟩
      rw [hx] at c1 l1
      rw [hy] at c2 l2
      obtain ⟨px, cx, hsx, hsx2⟩ := l1.shape
      obtain ⟨py, cy, hsy, hsy2⟩ := l2.shape
      obtain ⟨r, hr⟩ : ∃ r, rs[k].length = r := ⟨_, rfl⟩
      rw [hr] at hsx hsy
      subst hsx hsy
      have HC : Hid (∀ n, Calls Try.prog 23 #[.slice px r cx, .slice py r cy] (w.drewN n) fun e w' => e = .returned (.bool true) ∧ ∃ m, w' = (w.drewN n).drewN m) := fun n => lawInts_same _ _ rs[k] w n l1 l2 m1
      have i1 : (0 : Int) ≤ (k : Int) := by omega
      have i2 : (k : Int) < (n : Int) := by omega
      clear hsx2 hsy2 hc hc' hx hy h1 l1 l2 m1 m2 hr
      go_wp2_with fail
      go_quiet ((go_at_call 23; refine (HC.out _).mono ?_; rintro e w' ⟨rfl, q, rfl⟩; exact ⟨rfl, _, by rw [World.drewN_drewN, Nat.add_assoc]⟩))
      go_wp2
      go_roundw
      case rel => exact ⟨k + 1, by omega, by go_num, _, by first | rfl | exact World.drewN_drewN _ _ _⟩
      case measure => simp [intOf]; omega
    · obtain rfl : k = n := by omega
      go_wp2
      go_ret
      exact ⟨rfl, m, rfl⟩
end Go.Proofs.Ytccddjfcceclnaa
