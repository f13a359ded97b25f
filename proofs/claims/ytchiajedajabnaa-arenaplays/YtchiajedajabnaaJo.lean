/-
  What jobs makes of raw numbers.
-/
import Derived.Test.YtchiajedajabnaaFr
namespace Go.Proofs.Ytchiajedajabnaa
open Go.ChangeShapes Go.WideShapes Go.ChangeAt Go.RowKit
set_option linter.unusedVariables false
set_option linter.unusedSimpArgs false
/-- A job that is made of raw numbers. -/
def Okj (d : Q4) : Prop := 1 ≤ d.1 ∧ d.1 ≤ 4 ∧ 1 ≤ d.2.1 ∧ d.2.1 ≤ 1000 ∧ 0 ≤ d.2.2.1 ∧ d.2.2.1 < 12 ∧ 0 ≤ d.2.2.2 ∧ d.2.2.2 < 4
theorem grow_rowd {w wr w3 : World} {o : Obj} {u : Value} {n : Nat} {xs : List Value} (h : Below w.heap.size w wr) (hg : (wr.alloc o).drew.grownBy w3 u.ownBlock) (hr : wr.ownsRow w.heap.size 37 4 u n xs) : Below w.heap.size w w3 := by
  have hs := h.size
  exact (h.alloc (by omega) o).drew.grown hg (by simp; omega) (fun k hk => (hr.lt k hk).1)
theorem own_shape {w : World} {base : Nat} {e : TypeId} {size : Nat} {v : Value} {n : Nat} {xs : List Value} (h : w.ownsRow base e size v n xs) : ∃ p cap, v = .slice p n cap := by
  rcases h.2 with ⟨h1, h2⟩ | ⟨g, cap, cur, h1, _⟩
  · exact ⟨none, 0, by rw [h1, h2]⟩
  · exact ⟨_, cap, h1⟩
set_option maxHeartbeats 8000000 in
theorem jobs_any (v : Value) (al : List Q4) (w : World) (hv : JobsAt w v al) (hwf : ∀ x, x ∈ al → wf4 x) (hml : al.length ≤ maxLen) :
    Calls Try.prog 11 #[v] w fun e w' => ∃ (u : Value) (ds : List Q4), e = .returned u ∧ w'.ownsRow w.heap.size 37 4 u ds.length (ds.flatMap enc4) ∧ ds.length ≤ 80 ∧ (∀ d, d ∈ ds → Okj d) ∧ Below w.heap.size w w' := by
  obtain ⟨p, cap, rfl, hp⟩ := hv
  obtain ⟨n, hnl⟩ : ∃ n, al.length = n := ⟨_, rfl⟩
  have HP : Hid (0 < al.length → ∃ g off, p = some ⟨g, off, none⟩ ∧ ∀ j (hj : j < al.length), g < w.heap.size ∧ w.cell? ⟨g, off + j * 4, none⟩ = some (.int .i64 al[j].1) ∧ w.cell? ⟨g, off + j * 4 + 1, none⟩ = some (.int .i64 al[j].2.1) ∧ w.cell? ⟨g, off + j * 4 + 2, none⟩ = some (.int .i64 al[j].2.2.1) ∧ w.cell? ⟨g, off + j * 4 + 3, none⟩ = some (.int .i64 al[j].2.2.2)) := hp
  have HWF : Hid (∀ x, x ∈ al → wf4 x) := hwf
  have HNL : Hid (al.length = n) := hnl
  have hmx : (n : Int) ≤ 9223372036854775807 := by unfold maxLen at hml; omega
  obtain ⟨i0, a1, a2, a3, a4⟩ := info_parts info37
  have HI : Hid (Try.prog.info? 37 = some i0 ∧ i0.zero = some (.agg #[.int .i64 0, .int .i64 0, .int .i64 0, .int .i64 0]) ∧ i0.size = 4 ∧ i0.bytes = 32) := ⟨a1, a2, a3, a4⟩
  rw [hnl]
  clear hp hwf hnl hml a1 a2 a3 a4
  go_enter Try.func11, Try.ntmps11
  go_wp2
  go_loopw [3, 4] (fun x i wr => ∃ (k : Nat) (ds : List Q4), k ≤ n ∧ k ≤ 80 ∧ i = .int .i64 (k : Nat) ∧ ds.length = k ∧ (∀ d, d ∈ ds → Okj d) ∧ wr.ownsRow w.heap.size 37 4 x ds.length (ds.flatMap enc4) ∧ Below w.heap.size w wr) (fun _ i _ => 81 - (intOf i).toNat)
  case atStart => exact ⟨0, [], by omega, by omega, rfl, rfl, by simp, by simpa using World.ownsRow_nil w w.heap.size 37 4, Below.refl _ _⟩
  case round =>
    obtain ⟨k, ds, hk, hk6, rfl, hdl, hok, hrow, hB⟩ := hrel
    by_cases hlt : k < n ∧ k < 80
    · obtain ⟨pu, cu, rfl⟩ := own_shape hrow
      rw [hdl] at hrow ⊢
      have hka : k < al.length := by have := HNL.out; omega
      obtain ⟨g, off, hg, hc⟩ := HP.out (by omega)
      obtain ⟨hgs, c0, c1, c2, c3⟩ := hc k hka
      subst hg
      obtain ⟨d, hdk⟩ : ∃ d, al[k] = d := ⟨_, rfl⟩
      rw [hdk] at c0 c1 c2 c3
      have HD : Hid (wf4 d) := HWF.out d (by rw [← hdk]; exact List.getElem_mem _)
      have b0 : wr.cell? ⟨g, off + k * 4, none⟩ = some (.int .i64 d.1) := (hB.cell (p := ⟨g, off + k * 4, none⟩) hgs).trans c0
      have b1 : wr.cell? ⟨g, off + k * 4 + 1, none⟩ = some (.int .i64 d.2.1) := (hB.cell (p := ⟨g, off + k * 4 + 1, none⟩) hgs).trans c1
      have b2 : wr.cell? ⟨g, off + k * 4 + 2, none⟩ = some (.int .i64 d.2.2.1) := (hB.cell (p := ⟨g, off + k * 4 + 2, none⟩) hgs).trans c2
      have b3 : wr.cell? ⟨g, off + k * 4 + 3, none⟩ = some (.int .i64 d.2.2.2) := (hB.cell (p := ⟨g, off + k * 4 + 3, none⟩) hgs).trans c3
      have i1 : (0 : Int) ≤ (k : Int) := by omega
      have i2 : (k : Int) < (n : Int) := by omega
      have i3 : (k : Int) < 80 := by omega
      have HROW : Hid (wr.ownsRow w.heap.size 37 4 (.slice pu k cu) k (ds.flatMap enc4)) := hrow
      have HOK : Hid ((∀ d, d ∈ ds → Okj d) ∧ ds.length = k) := ⟨hok, hdl⟩
      have HB : Hid (Below w.heap.size w wr) := hB
      have HKL : Hid (k < n ∧ k < 80) := hlt
      have hne : wr.heap.size ≠ g := by have := hB.size; omega
      obtain ⟨x, hx, hP1⟩ := picked_const d.1 4 4 rfl HD.out.1 (by omega) (by omega)
      obtain ⟨y, hy, hP2⟩ := picked_const d.2.1 1000 1000 rfl HD.out.2.1 (by omega) (by omega)
      obtain ⟨z, hz, hP3⟩ := picked_const d.2.2.1 12 12 rfl HD.out.2.2.1 (by omega) (by omega)
      obtain ⟨z', hz', hP4⟩ := picked_const d.2.2.2 4 4 rfl HD.out.2.2.2 (by omega) (by omega)
      have H1 : Hid (∀ W, Calls Try.prog 12 #[.int .i64 d.1, .int .i64 4] W fun e w' => e = .returned (.int .i64 x) ∧ w' = W) := hP1
      have H2 : Hid (∀ W, Calls Try.prog 12 #[.int .i64 d.2.1, .int .i64 1000] W fun e w' => e = .returned (.int .i64 y) ∧ w' = W) := hP2
      have H3 : Hid (∀ W, Calls Try.prog 12 #[.int .i64 d.2.2.1, .int .i64 12] W fun e w' => e = .returned (.int .i64 z) ∧ w' = W) := hP3
      have H4 : Hid (∀ W, Calls Try.prog 12 #[.int .i64 d.2.2.2, .int .i64 4] W fun e w' => e = .returned (.int .i64 z') ∧ w' = W) := hP4
      have wx : IntKind.i64.wrap (1 + (x : Int)) = 1 + x := by simp [IntKind.wrap, IntKind.bits, IntKind.signed]; omega
      have wy : IntKind.i64.wrap (1 + (y : Int)) = 1 + y := by simp [IntKind.wrap, IntKind.bits, IntKind.signed]; omega
      have HNG : Hid (some g ≠ (Value.slice pu k cu).ownBlock) := fun c => by have := (hrow.lt g c.symm).1; omega
      clear hP1 hP2 hP3 hP4
      clear hc hdk c0 c1 c2 c3 hgs hka hrow hok hdl hB hlt
      go_wp2_with fail
      go_region_held3 (fun w' => w'.cell? ⟨g, off + k * 4, none⟩ = some (.int .i64 d.1) ∧ w'.cell? ⟨g, off + k * 4 + 1, none⟩ = some (.int .i64 d.2.1) ∧ w'.cell? ⟨g, off + k * 4 + 2, none⟩ = some (.int .i64 d.2.2.1) ∧ w'.cell? ⟨g, off + k * 4 + 3, none⟩ = some (.int .i64 d.2.2.2))
        (first
          | (go_keep; done)
          | exact ⟨hgrow.cell (cellA b0) HNG.out, hgrow.cell (cellA b1) HNG.out, hgrow.cell (cellA b2) HNG.out, hgrow.cell (cellA b3) HNG.out⟩)
        (first
          | (refine step_append_lies _ (by rfl) _ _ _ (by rfl) w.heap.size 37 i0 (.agg #[.int .i64 0, .int .i64 0, .int .i64 0, .int .i64 0]) 4 32 Try.underlying22 HI.out.1 HI.out.2.1 HI.out.2.2.1 HI.out.2.2.2 rfl (by omega) (.slice pu k cu) k _ (by rfl) (HROW.out.alloc _) ⟨wr.heap.size, 0, none⟩ 1 1 (enc4 (1 + (x : Int), 1 + (y : Int), (z : Int), (z' : Int))) (by rfl) (by rfl) (World.news_of_block (heap_alloc_new _ _)) (by simp [enc4, Value.oneCell']) (by omega) (by have := HOK.out.2; unfold maxLen; omega) (by have := HOK.out.2; omega) (by simp; have := HB.out.size; omega) (wr.heap.size + 1) (by simp) ?_; intro g' cap' w3 hown3 hgrow hat hltg)
          | (go_at_call_of 12 (Value.int IntKind.i64 d.1); refine (H1.out _).mono ?_; rintro e w' ⟨rfl, rfl⟩)
          | (go_at_call_of 12 (Value.int IntKind.i64 d.2.1); refine (H2.out _).mono ?_; rintro e w' ⟨rfl, rfl⟩)
          | (go_at_call_of 12 (Value.int IntKind.i64 d.2.2.1); refine (H3.out _).mono ?_; rintro e w' ⟨rfl, rfl⟩)
          | (go_at_call_of 12 (Value.int IntKind.i64 d.2.2.2); refine (H4.out _).mono ?_; rintro e w' ⟨rfl, rfl⟩))
      all_goals
        go_wp2
        go_roundw
        case rel =>
          refine ⟨k + 1, ds ++ [(1 + (x : Int), 1 + (y : Int), (z : Int), (z' : Int))], by omega, by omega, by go_num, by simp; exact HOK.out.2, fun q hq => ?_, ?_, grow_rowd HB.out hgrow HROW.out⟩
          · rcases List.mem_append.1 hq with c | c
            · exact HOK.out.1 q c
            · simp at c; subst c; unfold Okj; dsimp only; omega
          · rw [flat4_snoc, List.length_append, HOK.out.2]; exact hown3
        case measure => simp [intOf]; omega
    · have HE : Hid (wr.ownsRow w.heap.size 37 4 u3 ds.length (ds.flatMap enc4) ∧ ds.length ≤ 80 ∧ (∀ d, d ∈ ds → Okj d) ∧ Below w.heap.size w wr) := ⟨hrow, by omega, hok, hB⟩
      clear hrow hok hdl hB
      rcases (by omega : k = n ∨ (k < n ∧ k = 80)) with rfl | ⟨h1, rfl⟩
      · go_wp2
        go_ret
        exact ⟨_, ds, rfl, HE.out⟩
      · have i2 : (80 : Int) < (n : Int) := by omega
        clear h1 hlt
        go_wp2
        go_ret
        exact ⟨_, ds, rfl, HE.out⟩
end Go.Proofs.Ytchiajedajabnaa
