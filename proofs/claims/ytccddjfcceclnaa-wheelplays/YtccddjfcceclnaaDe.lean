/-
  What deeds makes of raw numbers.
-/
import Derived.Test.YtccddjfcceclnaaFr
import Derived.Test.YtccddjfcceclnaaSi
namespace Go.Proofs.Ytccddjfcceclnaa
open Go.ChangeShapes Go.WideShapes Go.ChangeAt Go.RowKit
set_option linter.unusedVariables false
set_option linter.unusedSimpArgs false
def encD (d : Dd) : List Value := [.int .i64 d.1, .int .i64 d.2.1, .int .i64 d.2.2]
/-- A deed from one time to another. -/
def Step1 (n : Nat) (d : Dd) (m : Nat) : Prop := 1 ≤ d.2.1 ∧ d.2.1 ≤ 30 ∧ ((d.1 = 1 ∧ (n : Int) < d.2.2 ∧ d.2.2 ≤ n + 3000 ∧ m = n) ∨ (d.1 = 2 ∧ d.2.2 = 0 ∧ m = n) ∨ (d.1 = 3 ∧ d.2.2 = m ∧ n ≤ m ∧ m < n + 900))
def Okd (n : Nat) : List Dd → Nat → Prop
  | [], m => m = n
  | d :: l, m => ∃ k, Step1 n d k ∧ Okd k l m
theorem Okd.snoc {n : Nat} {ds : List Dd} {m : Nat} (h : Okd n ds m) {d : Dd} {k : Nat} (hs : Step1 m d k) : Okd n (ds ++ [d]) k := by
  induction ds generalizing n with
  | nil => simp [Okd] at h; subst h; exact ⟨k, hs, rfl⟩
  | cons x r ih => obtain ⟨j, h1, h2⟩ := h; exact ⟨j, h1, ih h2⟩
theorem info36 : (Try.prog.info? 36).map (fun i => (i.zero, i.size, i.bytes)) = some (some (.agg #[.int .i64 0, .int .i64 0, .int .i64 0]), 3, 24) := by kernel_rfl
theorem flat_snoc (ds : List Dd) (d : Dd) : (ds ++ [d]).flatMap encD = ds.flatMap encD ++ encD d := by simp
theorem picked_const (n M : Int) (m : Nat) (hM : M = m) (hn : wfI n) (hm : 0 < m) (hm2 : m ≤ 1099511627776) : ∃ x : Nat, x < m ∧ ∀ W, Calls Try.prog 13 #[.int .i64 n, .int .i64 M] W fun e w' => e = .returned (.int .i64 x) ∧ w' = W := by
  subst hM
  have hb := pk_bd n m (by omega)
  obtain ⟨k, hk⟩ := Int.eq_ofNat_of_zero_le hb.1
  refine ⟨k, by omega, fun W => ?_⟩
  have := picked_any n m W hn.1 hn.2 (by omega) (by omega)
  rw [hk] at this
  exact this
theorem heap_two (w : World) (o : Obj) (cs : Array Value) (t : TypeId) : ((w.alloc o).alloc (.cells cs t)).heap[w.heap.size + 1]? = some (.cells cs t (0, 0)) := by
  rw [show w.heap.size + 1 = (w.alloc o).heap.size by simp]
  first | exact heap_alloc_new _ _ | exact _root_.Go.heap_alloc_new _ _
theorem DeB {w wr w3 : World} {o o' : Obj} {u : Value} {n : Nat} {xs : List Value} (h : Below w.heap.size w wr) (hg : ((wr.alloc o).alloc o').drew.grownBy w3 u.ownBlock) (hr : wr.ownsRow w.heap.size 36 3 u n xs) : Below w.heap.size w w3 := by
  have hs := h.size
  exact ((h.alloc (by omega) o).alloc (by simp; omega) o').drew.grown hg (by simp; omega) (fun k hk => (hr.lt k hk).1)
set_option maxHeartbeats 8000000 in
theorem deeds_any (now : Nat) (v : Value) (al : List Dd) (w : World) (hv : Trips w v al) (hwf : ∀ x, x ∈ al → wfD x) (hn : now ≤ 549755813888) :
    Calls Try.prog 14 #[.int .i64 now, v] w fun e w' => ∃ u ds m, e = .returned u ∧ w'.ownsRow w.heap.size 36 3 u ds.length (ds.flatMap encD) ∧ Okd now ds m ∧ ds.length ≤ 60 ∧ m ≤ now + 900 * ds.length ∧ Below w.heap.size w w' := by
  obtain ⟨p, cap, rfl, hml, hp⟩ := hv
  obtain ⟨n, hnl⟩ : ∃ n, al.length = n := ⟨_, rfl⟩
  have HP : Hid (0 < al.length → ∃ g off, p = some ⟨g, off, none⟩ ∧ ∀ j (hj : j < al.length), g < w.heap.size ∧ w.cell? ⟨g, off + j * 3, none⟩ = some (.int .i64 al[j].1) ∧ w.cell? ⟨g, off + j * 3 + 1, none⟩ = some (.int .i64 al[j].2.1) ∧ w.cell? ⟨g, off + j * 3 + 2, none⟩ = some (.int .i64 al[j].2.2)) := hp
  have HWF : Hid (∀ x, x ∈ al → wfD x) := hwf
  have HNL : Hid (al.length = n) := hnl
  have hmx : (n : Int) ≤ 9223372036854775807 := by unfold maxLen at hml; omega
  obtain ⟨i0, a1, a2, a3, a4⟩ := info_parts info36
  have HI : Hid (Try.prog.info? 36 = some i0 ∧ i0.zero = some (.agg #[.int .i64 0, .int .i64 0, .int .i64 0]) ∧ i0.size = 3 ∧ i0.bytes = 24) := ⟨a1, a2, a3, a4⟩
  rw [hnl]
  clear hp hwf hnl hml a1 a2 a3 a4
  go_enter Try.func14, Try.ntmps14
  go_wp2
  go_loopw [0, 5, 6] (fun t x i wr => ∃ (k m : Nat) (ds : List Dd), k ≤ n ∧ k ≤ 60 ∧ i = .int .i64 (k : Nat) ∧ t = .int .i64 (m : Nat) ∧ ds.length = k ∧ Okd now ds m ∧ m ≤ now + 900 * k ∧ wr.ownsRow w.heap.size 36 3 x ds.length (ds.flatMap encD) ∧ Below w.heap.size w wr) (fun _ _ i _ => 61 - (intOf i).toNat)
  case atStart => exact ⟨0, now, [], by omega, by omega, rfl, rfl, rfl, rfl, by omega, by simpa using World.ownsRow_nil w w.heap.size 36 3, Below.refl _ _⟩
  case round =>
    obtain ⟨k, m, ds, hk, hk6, rfl, rfl, hdl, hok, hm, hrow, hB⟩ := hrel
    by_cases hlt : k < n ∧ k < 60
    · have hka : k < al.length := by have := HNL.out; omega
      obtain ⟨g, off, hg, hc⟩ := HP.out (by omega)
      obtain ⟨hgs, c0, c1, c2⟩ := hc k hka
      subst hg
      obtain ⟨d, hdk⟩ : ∃ d, al[k] = d := ⟨_, rfl⟩
      rw [hdk] at c0 c1 c2
      have HD : Hid (wfD d) := HWF.out d (by rw [← hdk]; exact List.getElem_mem _)
      have b0 : wr.cell? ⟨g, off + k * 3, none⟩ = some (.int .i64 d.1) := (hB.cell (p := ⟨g, off + k * 3, none⟩) hgs).trans c0
      have b1 : wr.cell? ⟨g, off + k * 3 + 1, none⟩ = some (.int .i64 d.2.1) := (hB.cell (p := ⟨g, off + k * 3 + 1, none⟩) hgs).trans c1
      have b2 : wr.cell? ⟨g, off + k * 3 + 2, none⟩ = some (.int .i64 d.2.2) := (hB.cell (p := ⟨g, off + k * 3 + 2, none⟩) hgs).trans c2
      have i1 : (0 : Int) ≤ (k : Int) := by omega
      have i2 : (k : Int) < (n : Int) := by omega
      have i3 : (k : Int) < 60 := by omega
      have HROW : Hid (wr.ownsRow w.heap.size 36 3 u5 ds.length (ds.flatMap encD)) := hrow
      have HOK : Hid (Okd now ds m ∧ ds.length = k ∧ m ≤ now + 900 * k) := ⟨hok, hdl, hm⟩
      have HB : Hid (Below w.heap.size w wr) := hB
      have HKL : Hid (k < n ∧ k < 60) := hlt
      have hm2 : (m : Int) ≤ 549755877888 := by omega
      have hne : wr.heap.size ≠ g := by have := hB.size; omega
      have b2a : ∀ o, (wr.alloc o).cell? ⟨g, off + k * 3 + 2, none⟩ = some (.int .i64 d.2.2) := fun o => cellA b2
      obtain ⟨x, hx, hP1⟩ := picked_const d.1 3 3 rfl HD.out.1 (by omega) (by omega)
      obtain ⟨y, hy, hP2⟩ := picked_const d.2.1 30 30 rfl HD.out.2.1 (by omega) (by omega)
      obtain ⟨z, hz, hP3⟩ := picked_const d.2.2 3000 3000 rfl HD.out.2.2 (by omega) (by omega)
      obtain ⟨z', hz', hP4⟩ := picked_const d.2.2 900 900 rfl HD.out.2.2 (by omega) (by omega)
      have H1 : Hid (∀ W, Calls Try.prog 13 #[.int .i64 d.1, .int .i64 3] W fun e w' => e = .returned (.int .i64 x) ∧ w' = W) := hP1
      have H2 : Hid (∀ W, Calls Try.prog 13 #[.int .i64 d.2.1, .int .i64 30] W fun e w' => e = .returned (.int .i64 y) ∧ w' = W) := hP2
      have H3 : Hid (∀ W, Calls Try.prog 13 #[.int .i64 d.2.2, .int .i64 3000] W fun e w' => e = .returned (.int .i64 z) ∧ w' = W) := hP3
      have H4 : Hid (∀ W, Calls Try.prog 13 #[.int .i64 d.2.2, .int .i64 900] W fun e w' => e = .returned (.int .i64 z') ∧ w' = W) := hP4
      clear hP1 hP2 hP3 hP4
      clear hc hdk c0 c1 c2 hgs hka hrow hok hdl hB hlt hm
      go_wp2_with fail
      go_region_held3 (fun w' => w'.cell? ⟨g, off + k * 3, none⟩ = some (.int .i64 d.1) ∧ w'.cell? ⟨g, off + k * 3 + 1, none⟩ = some (.int .i64 d.2.1)) (go_keep)
        (first
          | (go_at_call_of 13 (Value.int IntKind.i64 d.1); refine (H1.out _).mono ?_; rintro e w' ⟨rfl, rfl⟩)
          | (go_at_call_of 13 (Value.int IntKind.i64 d.2.1); refine (H2.out _).mono ?_; rintro e w' ⟨rfl, rfl⟩))
      all_goals
        have wx : IntKind.i64.wrap (1 + (x : Int)) = 1 + x := by simp [IntKind.wrap, IntKind.bits, IntKind.signed]; omega
        have wy : IntKind.i64.wrap (1 + (y : Int)) = 1 + y := by simp [IntKind.wrap, IntKind.bits, IntKind.signed]; omega
        simp only [wx, wy]
        clear wx wy
        rcases (by omega : x = 0 ∨ x = 1 ∨ x = 2) with rfl | rfl | rfl
        · go_wp2_with (first
            | (go_at_call 13; refine (H3.out _).mono ?_; rintro e w' ⟨rfl, rfl⟩)
            | (at_builtin; refine wpList_append_own_at _ (by rfl) _ _ 22 (by rfl) w.heap.size 36 i0 (.agg #[.int .i64 0, .int .i64 0, .int .i64 0]) 3 24 Try.underlying22 HI.out.1 HI.out.2.1 HI.out.2.2.1 HI.out.2.2.2 rfl (by omega) u5 _ _ (by rfl) ((HROW.out.alloc _).alloc _) ⟨wr.heap.size + 1, 0, none⟩ 1 1 (encD (1, 1 + (y : Int), (m : Int) + 1 + (z : Int))) (by rfl) (by rfl) (World.news_of_block (heap_two _ _ _ _)) (by simp [encD, Value.oneCell']) (by have := HOK.out.2.1; unfold maxLen; omega) (by have := HOK.out.2.1; omega) (by simp; have := HB.out.size; omega) ?_; intro x' w3 hown3 hg3 hnil3 hat3))
          go_roundw
          case rel =>
            refine ⟨k + 1, m, ds ++ [(1, 1 + (y : Int), (m : Int) + 1 + (z : Int))], by omega, by omega, by go_num, rfl, by simp; exact HOK.out.2.1, HOK.out.1.snoc ?_, by have := HOK.out.2.2; omega, ?_, ?_⟩
            · unfold Step1; dsimp only; omega
            · rw [flat_snoc, List.length_append]; exact hown3
            · exact DeB HB.out hg3 (HROW.out)
          case measure => simp [intOf]; omega
        · go_wp2_with (first
            | (go_at_call 13; refine (H3.out _).mono ?_; rintro e w' ⟨rfl, rfl⟩)
            | (at_builtin; refine wpList_append_own_at _ (by rfl) _ _ 22 (by rfl) w.heap.size 36 i0 (.agg #[.int .i64 0, .int .i64 0, .int .i64 0]) 3 24 Try.underlying22 HI.out.1 HI.out.2.1 HI.out.2.2.1 HI.out.2.2.2 rfl (by omega) u5 _ _ (by rfl) ((HROW.out.alloc _).alloc _) ⟨wr.heap.size + 1, 0, none⟩ 1 1 (encD (2, 1 + (y : Int), 0)) (by rfl) (by rfl) (World.news_of_block (heap_two _ _ _ _)) (by simp [encD, Value.oneCell']) (by have := HOK.out.2.1; unfold maxLen; omega) (by have := HOK.out.2.1; omega) (by simp; have := HB.out.size; omega) ?_; intro x' w3 hown3 hg3 hnil3 hat3))
          go_roundw
          case rel =>
            refine ⟨k + 1, m, ds ++ [(2, 1 + (y : Int), 0)], by omega, by omega, by go_num, rfl, by simp; exact HOK.out.2.1, HOK.out.1.snoc ?_, by have := HOK.out.2.2; omega, ?_, ?_⟩
            · unfold Step1; dsimp only; omega
            · rw [flat_snoc, List.length_append]; exact hown3
            · exact DeB HB.out hg3 (HROW.out)
          case measure => simp [intOf]; omega
        · go_wp2_with (first
            | (go_at_call 13; refine (H4.out _).mono ?_; rintro e w' ⟨rfl, rfl⟩)
            | (at_builtin; refine wpList_append_own_at _ (by rfl) _ _ 22 (by rfl) w.heap.size 36 i0 (.agg #[.int .i64 0, .int .i64 0, .int .i64 0]) 3 24 Try.underlying22 HI.out.1 HI.out.2.1 HI.out.2.2.1 HI.out.2.2.2 rfl (by omega) u5 _ _ (by rfl) ((HROW.out.alloc _).alloc _) ⟨wr.heap.size + 1, 0, none⟩ 1 1 (encD (3, 1 + (y : Int), (m : Int) + (z' : Int))) (by rfl) (by rfl) (World.news_of_block (heap_two _ _ _ _)) (by simp [encD, Value.oneCell']) (by have := HOK.out.2.1; unfold maxLen; omega) (by have := HOK.out.2.1; omega) (by simp; have := HB.out.size; omega) ?_; intro x' w3 hown3 hg3 hnil3 hat3))
          go_roundw
          case rel =>
            refine ⟨k + 1, m + z', ds ++ [(3, 1 + (y : Int), (m : Int) + (z' : Int))], by omega, by omega, by go_num, by go_num, by simp; exact HOK.out.2.1, HOK.out.1.snoc ?_, by have := HOK.out.2.2; omega, ?_, ?_⟩
            · unfold Step1; dsimp only; omega
            · rw [flat_snoc, List.length_append]; exact hown3
            · exact DeB HB.out hg3 (HROW.out)
          case measure => simp [intOf]; omega
    · have HE : Hid (∃ m' : Nat, wr.ownsRow w.heap.size 36 3 u5 ds.length (ds.flatMap encD) ∧ Okd now ds m' ∧ ds.length ≤ 60 ∧ m' ≤ now + 900 * ds.length ∧ Below w.heap.size w wr) := ⟨m, hrow, hok, by omega, by rw [hdl]; exact hm, hB⟩
      clear hrow hok hdl hm hB
      rcases (by omega : k = n ∨ (k < n ∧ k = 60)) with rfl | ⟨h1, rfl⟩
      · go_wp2
        go_ret
        obtain ⟨m', r1, r2, r3, r4, r5⟩ := HE.out
        exact ⟨_, ds, m', rfl, r1, r2, r3, r4, r5⟩
      · have i2 : (60 : Int) < (n : Int) := by omega
        clear h1 hlt
        go_wp2
        go_ret
        obtain ⟨m', r1, r2, r3, r4, r5⟩ := HE.out
        exact ⟨_, ds, m', rfl, r1, r2, r3, r4, r5⟩
end Go.Proofs.Ytccddjfcceclnaa
