/-
  sameInts: two lists of numbers are the same.
-/
import Derived.Test.YtccddjfcceclnaaKb
namespace Go.Proofs.Ytccddjfcceclnaa
open Go.ChangeShapes Go.WideShapes Go.ChangeAt Go.RowKit
set_option linter.unusedVariables false
set_option linter.unusedSimpArgs false
theorem ListAt.shape {w : World} {v : Value} {zs : List Int} (h : ListAt w v zs) : ∃ p cap, v = .slice p zs.length cap ∧ (0 < zs.length → ∃ b, p = some ⟨b, 0, none⟩ ∧ ∀ j (hj : j < zs.length), w.cell? ⟨b, j, none⟩ = some (.int .i64 zs[j])) := by
  rcases h with ⟨h1, h2⟩ | ⟨b, cap, h1, h2, h3⟩
  · exact ⟨none, 0, by rw [h1, h2]; rfl, fun h => by rw [h2] at h; simp at h⟩
  · exact ⟨_, cap, h1, fun _ => ⟨b, rfl, fun j hj => h3 j _ (List.getElem?_eq_getElem hj)⟩⟩
set_option maxHeartbeats 4000000 in
theorem sameInts_any (u v : Value) (xs ys : List Int) (w : World) (hu : ListAt w u xs) (hv : ListAt w v ys) (hx : xs.length ≤ 2000) (hy : ys.length ≤ 2000) :
    Calls Try.prog 15 #[u, v] w fun e w' => e = .returned (.bool (decide (xs = ys))) ∧ ∃ n, w' = w.drewN n := by
  obtain ⟨p, cap, rfl, hp⟩ := hu.shape
  obtain ⟨q, caq, rfl, hq⟩ := hv.shape
  clear hu hv
  by_cases hl : xs.length = ys.length
  · obtain ⟨n, hn⟩ : ∃ n, xs.length = n := ⟨_, rfl⟩
    have hm : ys.length = n := by omega
    have HP : Hid (0 < xs.length → ∃ b, p = some ⟨b, 0, none⟩ ∧ ∀ j (hj : j < xs.length), w.cell? ⟨b, j, none⟩ = some (.int .i64 xs[j])) := hp
    have HQ : Hid (0 < ys.length → ∃ b, q = some ⟨b, 0, none⟩ ∧ ∀ j (hj : j < ys.length), w.cell? ⟨b, j, none⟩ = some (.int .i64 ys[j])) := hq
    have HN : Hid (xs.length = n ∧ ys.length = n) := ⟨hn, hm⟩
    rw [hn, hm]
    have hn2 : n ≤ 2000 := by omega
    clear hp hq hl hn hm hx hy
    go_enter Try.func15, Try.ntmps15
    go_wp2
    go_loopw [5] (fun i wr => ∃ k : Nat, k ≤ n ∧ i = .int .i64 k ∧ (∀ j, j < k → xs[j]? = ys[j]?) ∧ ∃ m, wr = w.drewN m) (fun i _ => n + 1 - (intOf i).toNat)
    case atStart => exact ⟨0, by omega, rfl, by omega, 0, rfl⟩
    case round =>
      obtain ⟨k, hk, rfl, hj, m, rfl⟩ := hrel
      have HJ : Hid (∀ j, j < k → xs[j]? = ys[j]?) := hj
      clear hj
      by_cases hlt : k < n
      · have h1 : k < xs.length := by have := HN.out.1; omega
        have h2 : k < ys.length := by have := HN.out.2; omega
        obtain ⟨b, hb, hc⟩ := HP.out (by omega)
        obtain ⟨b', hb', hc'⟩ := HQ.out (by omega)
        subst hb hb'
        have c1 := hc k h1
        have c2 := hc' k h2
        obtain ⟨x, hx⟩ : ∃ x, xs[k] = x := ⟨_, rfl⟩
        obtain ⟨y, hy⟩ : ∃ y, ys[k] = y := ⟨_, rfl⟩
        rw [hx] at c1
        rw [hy] at c2
        have HX : Hid (xs[k]? = some x ∧ ys[k]? = some y) := ⟨by rw [List.getElem?_eq_getElem h1, hx], by rw [List.getElem?_eq_getElem h2, hy]⟩
        have i1 : (0 : Int) ≤ (k : Int) := by omega
        have i2 : (k : Int) < (n : Int) := by omega
        clear hc hc' hx hy h1 h2
        go_wp2_with fail
        go_quiet (fail)
        go_wp2
        · rename_i h
          go_ret
          refine ⟨?_, _, World.drewN_drewN _ _ _⟩
          have : ¬ xs = ys := fun e => by
            obtain ⟨q1, q2⟩ := HX.out
            rw [e, q2] at q1
            simp at q1
            subst q1
            simp at h
          simp [this]
        · rename_i h
          go_roundw
          case rel =>
            refine ⟨k + 1, by omega, by go_num, fun j hj => ?_, _, rfl⟩
            rcases Nat.lt_or_ge j k with c | c
            · exact HJ.out j c
            · obtain rfl : j = k := by omega
              rw [HX.out.1, HX.out.2]
              simpa using h
          case measure => simp [intOf]; omega
      · obtain rfl : k = n := by omega
        go_wp2
        go_ret
        have : xs = ys := List.ext_getElem? (fun j => by
          rcases Nat.lt_or_ge j k with c | c
          · exact HJ.out j c
          · rw [List.getElem?_eq_none (by have := HN.out.1; omega), List.getElem?_eq_none (by have := HN.out.2; omega)])
        exact ⟨by simp [this], m, rfl⟩
  · have hne : ¬ xs = ys := fun e => hl (by rw [e])
    have hl2 : ¬ (xs.length : Int) = (ys.length : Int) := by omega
    have hd : decide (xs = ys) = false := by simp [hne]
    rw [hd]
    have hl3 : ((xs.length : Int) != (ys.length : Int)) = true := by simp; omega
    clear hd hne hp hq
    go_enter Try.func15, Try.ntmps15
    go_wp2
    go_ret
    exact ⟨rfl, 0, rfl⟩
end Go.Proofs.Ytccddjfcceclnaa
