/-
  What the laws share: picked, deeds laid in a new block, answers read.
-/
import Derived.Test.YtccddjfcceclnaaPl
namespace Go.Proofs.Ytccddjfcceclnaa
open Go.ChangeShapes Go.WideShapes Go.ChangeAt Go.RowKit
set_option linter.unusedVariables false
set_option linter.unusedSimpArgs false
def pk (n m : Int) : Int := if 0 ≤ n then n % m else -((n + 1).tmod m)
theorem pk_bd (n m : Int) (hm : 0 < m) : 0 ≤ pk n m ∧ pk n m < m := by
  unfold pk
  split
  · exact ⟨Int.emod_nonneg n (by omega), Int.emod_lt_of_pos n hm⟩
  · have e : -((n + 1).tmod m) = (-(n + 1)).tmod m := (Int.neg_tmod _ _).symm
    rw [e]
    exact ⟨Int.tmod_nonneg _ (by omega), Int.tmod_lt_of_pos _ hm⟩
set_option maxHeartbeats 1000000 in
theorem picked_any (n m : Int) (w : World) (hn1 : -9223372036854775808 ≤ n) (hn2 : n ≤ 9223372036854775807) (hm : 0 < m) (hm2 : m ≤ 1099511627776) :
    Calls Try.prog 13 #[.int .i64 n, .int .i64 m] w fun e w' => e = .returned (.int .i64 (pk n m)) ∧ w' = w := by
  have hm0 : ¬ m = 0 := by omega
  unfold pk
  by_cases h : 0 ≤ n
  · simp only [h, if_true]
    go_enter Try.func13, Try.ntmps13
    go_wp2
    go_ret
    exact ⟨rfl, rfl⟩
  · have h' : n < 0 := by omega
    simp only [h, if_false]
    go_enter Try.func13, Try.ntmps13
    go_wp2
    go_ret
    exact ⟨rfl, rfl⟩
theorem picked_nat (n M : Int) (m : Nat) (hM : M = m) (w : World) (hn : wfI n) (hm : 0 < m) (hm2 : m ≤ 1099511627776) :
    Calls Try.prog 13 #[.int .i64 n, .int .i64 M] w fun e w' => ∃ k : Nat, pk n m = k ∧ k < m ∧ e = .returned (.int .i64 k) ∧ w' = w := by
  subst hM
  have hb := pk_bd n m (by omega)
  obtain ⟨k, hk⟩ := Int.eq_ofNat_of_zero_le hb.1
  refine (picked_any n m w hn.1 hn.2 (by omega) (by omega)).mono ?_
  rintro e w' ⟨rfl, rfl⟩
  exact ⟨k, hk, by omega, by rw [hk], rfl⟩
theorem play_int (N : Int) (now : Nat) (hN : N = now) (v : Value) (ds : List Dd) (w : World) (hd : DeedsAt w v ds) (hwf : ∀ d, d ∈ ds → wfI d.2.1 ∧ wfI d.2.2) (hn : now ≤ 1099511627776) (hl : ds.length ≤ 2000) :
    Calls Try.prog 9 #[.int .i64 N, v] w fun e w' => ∃ tv dv, e = .returned (.tuple #[tv, dv, .int .i64 0]) ∧ ListAt w' tv (codes ⟨now, 0, []⟩ ds) ∧ RowsAt w' dv (rows ⟨now, 0, []⟩ ds) ∧ Below w.heap.size w w' := by
  subst hN
  exact play_any now v ds w hd hwf hn hl
theorem ListAt.form {w : World} {v : Value} {zs : List Int} (h : ListAt w v zs) (h0 : 0 < zs.length) : ∃ b cap, v = .slice (some ⟨b, 0, none⟩) zs.length cap ∧ b < w.heap.size ∧ ∀ j z, zs[j]? = some z → w.cell? ⟨b, j, none⟩ = some (.int .i64 z) := by
  rcases h with ⟨_, h2⟩ | h
  · rw [h2] at h0; simp at h0
  · exact h
theorem RowsAt.form {w : World} {v : Value} {rs : List (List Int)} (h : RowsAt w v rs) (h0 : 0 < rs.length) : ∃ b cap, ∃ us : Nat → Value, v = .slice (some ⟨b, 0, none⟩) rs.length cap ∧ b < w.heap.size ∧ ∀ j (hj : j < rs.length), w.cell? ⟨b, j, none⟩ = some (us j) ∧ ListAt w (us j) rs[j] ∧ rs[j].length ≤ 1000 := by
  rcases h with ⟨_, h2⟩ | h
  · rw [h2] at h0; simp at h0
  · exact h
/-- Deeds in a new block. -/
theorem deeds_new (w : World) (cs : List Value) (ds : List Dd) (h : cs.length = ds.length * 3) (hc : ∀ j (hj : j < ds.length), cs[j * 3]? = some (.int .i64 ds[j].1) ∧ cs[j * 3 + 1]? = some (.int .i64 ds[j].2.1) ∧ cs[j * 3 + 2]? = some (.int .i64 ds[j].2.2)) (n : Nat) (hn : n = ds.length) :
    DeedsAt (w.alloc (.cells cs.toArray 36)) (.slice (some ⟨w.heap.size, 0, none⟩) n n) ds := by
  subst hn
  have hb : (w.alloc (.cells cs.toArray 36)).heap[w.heap.size]? = some (.cells cs.toArray 36 (0, 0)) := by first | exact heap_alloc_new w _ | exact _root_.Go.heap_alloc_new w _
  have c : ∀ i v, cs[i]? = some v → (w.alloc (.cells cs.toArray 36)).cell? ⟨w.heap.size, 0 + i, none⟩ = some v := fun i v hv => by
    rw [Nat.zero_add, cell_of_row _ _ i cs.toArray 36 (0, 0) hb]; simpa using hv
  refine Or.inr ⟨w.heap.size, 0, ds.length, rfl, fun j hj => ⟨by simp, ?_, ?_, ?_⟩⟩
  · exact c _ _ (hc j hj).1
  · rw [Nat.add_assoc]; exact c _ _ (hc j hj).2.1
  · rw [Nat.add_assoc]; exact c _ _ (hc j hj).2.2
end Go.Proofs.Ytccddjfcceclnaa
