/-
  The numbers of the timers, in a slice of their own.
-/
import Derived.Test.YtccddjfcceclnaaSo
import Derived.Test.YtccddjfcceclnaaT
import Derived.Deep.OwnRows
namespace Go.Proofs.Ytccddjfcceclnaa
open Go.ChangeShapes Go.WideShapes Go.ChangeAt Go.RowKit
set_option linter.unusedVariables false
set_option linter.unusedSimpArgs false
theorem info3 : (Try.prog.info? 3).map (fun i => (i.zero, i.size, i.bytes)) = some (some (.int .i64 0), 1, 8) := by kernel_rfl
/-- A slice of whole numbers, read in a world. -/
def IntsAt (w : World) (v : Value) (zs : List Int) : Prop :=
  (v = .slice none 0 0 ∧ zs = []) ∨ ∃ b cap, v = .slice (some ⟨b, 0, none⟩) zs.length cap ∧ b < w.heap.size ∧ zs.length ≤ 1000 ∧ ∀ j z, zs[j]? = some z → w.cell? ⟨b, j, none⟩ = some (.int .i64 z)
theorem cell3 {w : World} {base g cap : Nat} {l : List Tm} (h : w.ownsRow base 69 3 (.slice (some ⟨g, 0, none⟩) l.length cap) l.length (l.flatMap encT)) {i : Nat} (hi : i < l.length) :
    w.cell? ⟨g, i * 3, none⟩ = some (.int .i64 l[i].i) ∧ w.cell? ⟨g, i * 3 + 1, none⟩ = some (.int .i64 l[i].a) ∧ w.cell? ⟨g, i * 3 + 2, none⟩ = some (.int .i64 l[i].o) := by
  have c : ∀ j u, (l.flatMap encT)[j]? = some u → w.cell? ⟨g, j, none⟩ = some u := fun j u hu => by
    have := h.cells rfl j u hu
    have hadd : (⟨g, 0, none⟩ : Addr).add j = ⟨g, j, none⟩ := by unfold Addr.add; split <;> simp_all
    rw [hadd] at this
    exact this
  have e : ∀ r, r < 3 → (i * 3 + r) / 3 = i ∧ (i * 3 + r) % 3 = r := fun r hr => by omega
  have f : ∀ r, r < 3 → (l.flatMap encT)[i * 3 + r]? = some ((encT l[i])[r]!) := fun r hr => by
    rw [flat_at l (i * 3 + r) (by omega), (e r hr).1, (e r hr).2]
    simp [getElem!_pos, hi]
  exact ⟨c _ _ (f 0 (by omega)), c _ _ (f 1 (by omega)), c _ _ (f 2 (by omega))⟩
theorem below_new' (a : World) (o : Obj) : Below a.heap.size a (a.alloc o) := (Below.refl _ _).alloc (Nat.le_refl _) o
set_option maxHeartbeats 4000000 in
theorem ids_any (l : List Tm) (base : Nat) (v : Value) (w : World) (hown : w.ownsRow base 69 3 v l.length (l.flatMap encT)) (hl : l.length ≤ 1000) :
    Calls Try.prog 33 #[v] w fun e w' => ∃ u, e = .returned u ∧ IntsAt w' u (l.map fun t => (t.i : Int)) ∧ (∀ k, u.ownBlock = some k → w.heap.size ≤ k) ∧ Below w.heap.size w w' := by
  obtain ⟨i0, hi, hz0, hz1, hz2⟩ := info_parts info3
  have HI : Hid (Try.prog.info? 3 = some i0 ∧ i0.zero = some (.int .i64 0) ∧ i0.size = 1 ∧ i0.bytes = 8) := ⟨hi, hz0, hz1, hz2⟩
  obtain ⟨p, cap, hv, hp⟩ : ∃ p cap, v = .slice p l.length cap ∧ (0 < l.length → ∃ g, p = some ⟨g, 0, none⟩) := by
    rcases hown.2 with ⟨rfl, h0⟩ | ⟨g, cap, cur, rfl, _⟩
    · exact ⟨none, 0, by rw [h0], fun h => by omega⟩
    · exact ⟨_, cap, rfl, fun _ => ⟨g, rfl⟩⟩
  subst hv
  have HO : Hid (w.ownsRow base 69 3 (.slice p l.length cap) l.length (l.flatMap encT)) := hown
  have HP : Hid (0 < l.length → ∃ g, p = some ⟨g, 0, none⟩) := hp
  clear hown hi hz0 hz1 hz2 hp
  go_enter Try.func33, Try.ntmps33
  go_wp2_with (refine wpList_make_row _ rfl _ _ 38 rfl 3 i0 (.int .i64 0) Try.underlying38 HI.out.1 HI.out.2.1 HI.out.2.2.1 rfl .i64 .i64 l.length rfl rfl (by rw [HI.out.2.2.2]; omega) (by omega) ?_)
  go_loopw [11] (fun i wr => ∃ k : Nat, k ≤ l.length ∧ i = .int .i64 k ∧ wr.rowIs w.heap.size 3 l.length (fun j => if j < k then .int .i64 ((l.getD j default).i : Int) else .int .i64 0) ∧ Below w.heap.size w wr) (fun i _ => l.length + 1 - (intOf i).toNat)
  case atStart => exact ⟨0, by omega, rfl, (World.rowIs_made w (.int .i64 0) l.length 3).congr (fun i hi => by simp), below_new' _ _⟩
  case round =>
    obtain ⟨k, hk, rfl, hR, hB⟩ := hrel
    by_cases hlt : k < l.length
    · obtain ⟨g, hg⟩ := HP.out (by omega)
      subst hg
      have hgs : g < w.heap.size := (HO.out.lt g rfl).2
      obtain ⟨c0, c1, c2⟩ := cell3 HO.out hlt
      have b0 : wr.cell? ⟨g, k * 3, none⟩ = some (.int .i64 l[k].i) := (hB.cell (p := ⟨g, k * 3, none⟩) hgs).trans c0
      have b1 : wr.cell? ⟨g, k * 3 + 1, none⟩ = some (.int .i64 l[k].a) := (hB.cell (p := ⟨g, k * 3 + 1, none⟩) hgs).trans c1
      have b2 : wr.cell? ⟨g, k * 3 + 2, none⟩ = some (.int .i64 l[k].o) := (hB.cell (p := ⟨g, k * 3 + 2, none⟩) hgs).trans c2
      have dk : ∀ o, (wr.alloc o).cell? ⟨w.heap.size, k, none⟩ = some (.int .i64 0) := fun o => cellA ((hR.cell hlt).trans (by simp))
      have df : ∀ o, (wr.alloc o).frozen? ⟨w.heap.size, k, none⟩ = false := fun o => (frozA (p := ⟨w.heap.size, k, none⟩) hR.lt).trans (hR.frozen k)
      have hne : wr.heap.size ≠ w.heap.size := by have := hR.lt; omega
      have i1 : (0 : Int) ≤ (k : Int) := by omega
      have i2 : (k : Int) < (l.length : Int) := by omega
      have HR : Hid (wr.rowIs w.heap.size 3 l.length (fun j => if j < k then .int .i64 ((l.getD j default).i : Int) else .int .i64 0)) := hR
      have HB : Hid (Below w.heap.size w wr) := hB
      have HK : Hid (k < l.length) := hlt
      clear hR hB c0 c1 c2
      go_wp2
      go_roundw
      case rel =>
        refine ⟨k + 1, by omega, by go_num, ?_, ?_⟩
        · refine ((HR.out.alloc _).set k _).congr (fun j hj => ?_)
          have e0 : l.getD k default = l[k] := by rw [List.getD_eq_getElem?_getD, List.getElem?_eq_getElem hlt]; rfl
          by_cases e : j = k
          · subst e; rw [if_pos rfl, if_pos (Nat.lt_succ_self _), e0]; try rfl
          · by_cases e2 : j < k
            · rw [if_neg e, if_pos e2, if_pos (by omega)]
            · rw [if_neg e, if_neg e2, if_neg (by omega)]
        · have hs := HB.out.size
          exact (HB.out.alloc (by simpa using hs) _).setCell (by simp) _
      case measure => simp [intOf]; omega
    · obtain rfl : k = l.length := by omega
      go_wp2
      go_ret
      refine ⟨_, rfl, ?_, fun k hk => ?_, hB⟩
      · refine Or.inr ⟨w.heap.size, l.length, by simp, hR.lt, by simpa using hl, fun j z hj => ?_⟩
        obtain ⟨hj1, hj2⟩ := List.getElem?_eq_some_iff.1 hj
        simp at hj1 hj2
        rw [hR.cell hj1, if_pos hj1, List.getD_eq_getElem?_getD, List.getElem?_eq_getElem hj1, ← hj2]
        rfl
      · have : w.heap.size = k := by simpa [Value.ownBlock] using hk
        omega
end Go.Proofs.Ytccddjfcceclnaa
