/-
  Numbers out of raw ones; letters; a text that is cut.
-/
import Derived.Test.YtepgkemnpcadiabVa
namespace Go.Proofs.Ytepgkemnpcadiab
open Go.ChangeShapes Go.WideShapes Go.ChangeAt Go.RowKit Go.Maps
set_option linter.unusedVariables false
set_option linter.unusedSimpArgs false
set_option maxRecDepth 20000
def pk (n m : Int) : Int := if 0 ≤ n then n % m else -((n + 1).tmod m)
theorem pk_bd (n m : Int) (hm : 0 < m) : 0 ≤ pk n m ∧ pk n m < m := by
  unfold pk
  split
  · exact ⟨Int.emod_nonneg n (by omega), Int.emod_lt_of_pos n hm⟩
  · have h2 := Int.tmod_lt_of_pos (-(n + 1)) hm
    have h1 := Int.tmod_nonneg m (by omega : 0 ≤ -(n + 1))
    rw [Int.neg_tmod] at h1 h2
    omega
theorem picked_any (n m : Int) (w : World) (hn1 : -9223372036854775808 ≤ n) (hn2 : n ≤ 9223372036854775807) (hm : 0 < m) (hm2 : m ≤ 4611686018427387904) :
    Calls Try.prog 11 #[.int .i64 n, .int .i64 m] w fun e w' => e = .returned (.int .i64 (pk n m)) ∧ w' = w := by
  have hm0 : ¬ m = 0 := by omega
  unfold pk
  by_cases h : 0 ≤ n
  · simp only [h, if_true]
    go_enter Try.func11, Try.ntmps11
    go_wp2
    go_ret
    exact ⟨rfl, rfl⟩
  · have h' : n < 0 := by omega
    simp only [h, if_false]
    go_enter Try.func11, Try.ntmps11
    go_wp2_with fail
    go_ret
    exact ⟨rfl, rfl⟩
def tyN (at_ : Nat) : ByteArray := if at_ = 0 then ⟨#[97]⟩ else if at_ = 1 then ⟨#[98]⟩ else if at_ = 2 then ⟨#[99]⟩ else ⟨#[100]⟩
def cutT (s : ByteArray) (k : Nat) : ByteArray := s.extract 0 (min s.size k)
theorem cut_any (s : ByteArray) (k : Nat) (hk : k ≤ 1000) (hs : s.size ≤ maxLen) (w : World) : Calls Try.prog 27 #[.string s, .int .i64 (k : Int)] w fun e w' => e = .returned (.string (cutT s k)) ∧ Below w.heap.size w w' := by
  unfold cutT
  obtain ⟨n, hn⟩ : ∃ n, s.size = n := ⟨_, rfl⟩
  rcases (by omega : n ≤ k ∨ k < n) with h | h
  · have r0 : (n : Int) ≤ (k : Int) := by omega
    have hm : min s.size k = n := by omega
    rw [hm]
    go_enter Try.func27, Try.ntmps27
    go_wp2_with fail
    go_ret
    exact ⟨rfl, Below.refl _ _⟩
  · have r0 : ¬ (n : Int) ≤ (k : Int) := by omega
    have hm : min s.size k = k := by omega
    rw [hm]
    go_enter Try.func27, Try.ntmps27
    go_wp2_with fail
    go_ret
    exact ⟨rfl, Below.refl _ _⟩
/-- A row that is owned lies in no block of another type. -/
theorem own_ne {w : World} {B : Nat} {v : Value} {l : List Vl} (h : VO w B v l) {b : Nat} {cs : Array Value} {t : TypeId} (hb : w.heap[b]? = some (.cells cs t (0, 0))) (ht : t ≠ 73) : v.ownBlock ≠ some b := fun c => by
  unfold VO at h
  rcases h.2 with ⟨rfl, _⟩ | ⟨g, cap, cur, rfl, _, h2, _⟩
  · simp [Value.ownBlock] at c
  · simp [Value.ownBlock] at c
    subst c
    rw [h2] at hb
    simp at hb
    exact ht hb.2.symm
theorem VO.lo {w : World} {B : Nat} {v : Value} {l : List Vl} (h : VO w B v l) {i : Nat} (hi : v.ownBlock = some i) : B ≤ i ∧ i < w.heap.size := own_block_some h hi
theorem VO.same {w w' : World} {B : Nat} {v : Value} {l : List Vl} (h : VO w B v l) (hb : ∀ i, v.ownBlock = some i → w'.heap[i]? = w.heap[i]?) : VO w' B v l := owns_same h hb
theorem VO.fr {w w' : World} {B : Nat} {v : Value} {l : List Vl} (h : VO w B v l) {b : Nat} {cs : Array Value} {t : TypeId} (hf : Fr (fun i => i = b) w w') (hb : w.heap[b]? = some (.cells cs t (0, 0))) (ht : t ≠ 73) : VO w' B v l :=
  h.same fun i hi => hf.block i (h.lo hi).2 fun c => own_ne h hb ht (c ▸ hi)
theorem op_appV {o : Oper} {a : Act} {W : World} {K : Act → World → Prop} {Q : Exit → Act → World → Prop} (s x : Operand) (ho : o.op = .call { callee := .builtin .append, args := #[s, x], argTypes := #[42, 42] }) (B : Nat) (rv : Value) (l : List Vl) (hs : a.eval s = rv) (hr : VO W B rv l) (hbase : B ≤ W.heap.size) (b : Nat) (c : Vl) (hx : a.eval x = .slice (some ⟨b, 0, none⟩) 1 1)
    (hb : W.heap[b]? = some (.cells (encV c).toArray 73 (0, 0))) (hn : l.length ≤ 5) (m : Nat) (hm : l.length + 1 = m)
    (h : ∀ p' c' W', VO W' B (.slice p' m c') (l ++ [c]) → W.grownBy W' rv.ownBlock → K (a.put o.dst (.slice p' m c')) W') : Oper.wp Try.prog o a W K Q := by
  obtain ⟨i0, hi, hz0, hz1, hz2⟩ := info_parts infoV
  unfold VO at hr
  obtain ⟨v', w', r1, r2, r3, _, r5⟩ := run_append_own_at (P := Try.prog) W B 42 o.type 73 i0 _ 3 32 Try.underlying42 hi hz0 hz1 hz2 rfl (by omega) rv l.length (l.flatMap encV) hr ⟨b, 0, none⟩ 1 1 (encV c) (by rfl) (fun j u hj => by rw [Addr.add_mid, cell_of_blk hb]; simpa using hj) (by
    intro u hu
    simp [encV] at hu
    rcases hu with rfl | rfl | rfl <;> rfl) (by unfold maxLen; omega) (by omega) hbase
  have hv : VO w' B v' (l ++ [c]) := by unfold VO; rw [List.length_append, List.flatMap_append]; simpa using r2
  obtain ⟨p', cap', hsh, _⟩ := hv.va
  have hl : (l ++ [c]).length = m := by simp; omega
  rw [hl] at hsh
  subst hsh
  unfold Oper.wp execOp
  simp only [ho, resolve, invoke, builtin, Sem.run_bind, Sem.run_pure, Result.andThen_ok, List.map_toArray, List.map_cons, List.map_nil, hs, hx, r1]
  exact h p' cap' w' hv r3
end Go.Proofs.Ytepgkemnpcadiab
