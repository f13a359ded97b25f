/-
  The walk of the law WheelPlays.
-/
import Derived.Test.YtccddjfcceclnaaPw
import Derived.SizedLaws
namespace Go.Proofs.Ytccddjfcceclnaa
open Go.ChangeShapes Go.WideShapes Go.ChangeAt Go.RowKit Go.Maps Go.Deep
set_option linter.unusedVariables false
set_option linter.unusedSimpArgs false
theorem oneD (l : List Dd) : ∀ u ∈ l.flatMap encD, u.oneCell' = true := by
  intro u hu
  obtain ⟨t, _, ht⟩ := List.mem_flatMap.1 hu
  simp [encD] at ht
  rcases ht with rfl | rfl | rfl <;> rfl
/-- Deeds that came in, behind none. -/
theorem run_copy (w : World) (ty : TypeId) {v : Value} {l : List Dd} (hd : Trips w v l) (hb : l.length * 24 ≤ 140737488355328) :
    ∃ v' w', (Builtin.append_ #[22, 22] ty #[.slice none 0 0, v]).run Try.prog w = .ok v' w' ∧ w'.ownsRow w.heap.size 36 3 v' l.length (l.flatMap encD) ∧ Below w.heap.size w w' := by
  obtain ⟨i0, hi, hz0, hz1, hz2⟩ := info_parts info36
  obtain ⟨p, cap, rfl, _, hp⟩ := hd
  by_cases h0 : l.length = 0
  · have e : l = [] := List.eq_nil_of_length_eq_zero h0
    subst e
    refine ⟨.slice none 0 0, w, ?_, by simpa using World.ownsRow_nil w w.heap.size 36 3, Below.refl _ _⟩
    cases p <;> simp [Builtin.append_, run_underlying Try.underlying22, sizeOf, typeInfo, hi, Builtin.lenOf, Builtin.firstCells, loadCells, loadCellsFrom]
  · obtain ⟨g, off, rfl, hc⟩ := hp (by omega)
    obtain ⟨v', w', r1, r2, r3, _, r5⟩ := run_append_own_at (P := Try.prog) w w.heap.size 22 ty 36 i0 (.agg #[.int .i64 0, .int .i64 0, .int .i64 0]) 3 24 Try.underlying22 hi hz0 hz1 hz2 rfl (by omega) (.slice none 0 0) 0 [] (World.ownsRow_nil w w.heap.size 36 3) ⟨g, off, none⟩ l.length cap (l.flatMap encD) (length_flatD _) (fun r u hr => by
      have hlt := (List.getElem?_eq_some_iff.1 hr).1
      rw [length_flatD] at hlt
      have hq : r / 3 < l.length := by omega
      obtain ⟨a0, a1, a2⟩ := flatD_at l (r / 3) hq
      obtain ⟨_, c0, c1, c2⟩ := hc (r / 3) hq
      rw [Addr.add_mid]
      rcases (by omega : r = r / 3 * 3 ∨ r = r / 3 * 3 + 1 ∨ r = r / 3 * 3 + 2) with h | h | h
      · rw [h] at hr ⊢; rw [a0] at hr; cases hr; exact c0
      · rw [h] at hr ⊢; rw [a1] at hr; cases hr; rw [← Nat.add_assoc]; exact c1
      · rw [h] at hr ⊢; rw [a2] at hr; cases hr; rw [← Nat.add_assoc]; exact c2) (oneD l) (by unfold maxLen; omega) (by omega) (Nat.le_refl _)
    refine ⟨v', w', r1, by simpa using r2, ?_⟩
    exact (Below.refl _ _).grown r3 (Nat.le_refl _) (fun k hk => by cases hk)
theorem wpList_copy (w : World) {ops : Array Oper} {rest : List Oper} {o : Oper} {a : Act} {Q : Exit → Act → World → Prop} (hgd : o.guard = none) (s x : Operand)
    (ho : o.op = .call { callee := .builtin .append, args := #[s, x], argTypes := #[22, 22] }) (v : Value) (l : List Dd) (hs : a.eval s = .slice none 0 0) (hx : a.eval x = v) (hd : Trips w v l) (hb : l.length * 24 ≤ 140737488355328)
    (h : ∀ v' w', w'.ownsRow w.heap.size 36 3 v' l.length (l.flatMap encD) → Below w.heap.size w w' → wpList Try.prog ops Q rest (a.put o.dst v') w') :
    wpList Try.prog ops Q (o :: rest) a w := by
  refine wpList_plain hgd fun K hK => ?_
  obtain ⟨v', w', hr, h2, h3⟩ := run_copy w o.type hd hb
  unfold Oper.wp execOp
  simp only [ho, resolve, invoke, builtin, Sem.run_bind, Sem.run_pure, Result.andThen_ok, List.map_toArray, List.map_cons, List.map_nil, hs, hx, hr]
  exact hK _ _ (h v' w' h2 h3)
theorem list_none (w : World) : ListAt w (.slice none 0 0) [] := Or.inl ⟨rfl, rfl⟩
theorem rows_none (w : World) : RowsAt w (.slice none 0 0) [] := Or.inl ⟨rfl, rfl⟩
theorem Trips.below {w w' : World} {v : Value} {ds : List Dd} (h : Trips w v ds) (b : Below w.heap.size w w') : Trips w' v ds := by
  obtain ⟨p, cap, h1, h2, h3⟩ := h
  refine ⟨p, cap, h1, h2, fun h0 => ?_⟩
  obtain ⟨g, off, hp, hc⟩ := h3 h0
  refine ⟨g, off, hp, fun j hj => ?_⟩
  obtain ⟨c0, c1, c2, c3⟩ := hc j hj
  exact ⟨Nat.lt_of_lt_of_le c0 b.size, (b.cell (p := ⟨g, off + j * 3, none⟩) c0).trans c1, (b.cell (p := ⟨g, off + j * 3 + 1, none⟩) c0).trans c2, (b.cell (p := ⟨g, off + j * 3 + 2, none⟩) c0).trans c3⟩
/-- What both are told where they refuse. -/
def Bad (t : Int) (n : Nat) (c : Int) : Prop := (c = 2 ∧ ¬ (0 ≤ t ∧ t ≤ 1099511627776)) ∨ (c = 1 ∧ (0 ≤ t ∧ t ≤ 1099511627776) ∧ 2000 < n)
set_option maxHeartbeats 4000000 in
theorem play_bad (t c : Int) (p : Option Addr) (n cap : Nat) (w : World) (h : Bad t n c) : Calls Try.prog 9 #[.int .i64 t, .slice p n cap] w fun e w' => e = .returned (.tuple #[.slice none 0 0, .slice none 0 0, .int .i64 c]) ∧ w' = w := by
  have hit := isTime_any t
  rcases h with ⟨rfl, h⟩ | ⟨rfl, h, h2⟩
  · rw [show decide ((0 : Int) ≤ t ∧ t ≤ 1099511627776) = false by simpa using h] at hit
    have HT : Hid (∀ w, Calls Try.prog 16 #[.int .i64 t] w fun e w' => e = .returned (.bool false) ∧ w' = w) := hit
    clear hit h
    go_enter Try.func9, Try.ntmps9
    go_wp2_with (go_at_call 16; refine (HT.out _).mono ?_; rintro e w ⟨rfl, rfl⟩)
    go_ret3
    exact ⟨rfl, rfl⟩
  · rw [show decide ((0 : Int) ≤ t ∧ t ≤ 1099511627776) = true by simpa using h] at hit
    have HT : Hid (∀ w, Calls Try.prog 16 #[.int .i64 t] w fun e w' => e = .returned (.bool true) ∧ w' = w) := hit
    have h3 : decide ((2000 : Int) < (n : Int)) = true := by simp; omega
    have h4 : (2000 < n) = True := by simpa using h2
    clear hit h h2
    go_enter Try.func9, Try.ntmps9
    go_wp2_with (go_at_call 16; refine (HT.out _).mono ?_; rintro e w ⟨rfl, rfl⟩)
    go_ret3
    exact ⟨rfl, rfl⟩
set_option maxHeartbeats 4000000 in
theorem played_bad (t c : Int) (p : Option Addr) (n cap : Nat) (w : World) (h : Bad t n c) : Calls Try.prog 10 #[.int .i64 t, .slice p n cap] w fun e w' => e = .returned (.tuple #[.slice none 0 0, .slice none 0 0, .int .i64 c]) ∧ w' = w := by
  rcases h with ⟨rfl, h⟩ | ⟨rfl, h, h2⟩
  · have HT : Hid (Say false (0 ≤ t ∧ t ≤ 1099511627776)) := Say.no h
    clear h
    go_enter Try.func10, Try.ntmps10
    go_wp2_with (go_at_call 18; refine (timeMay_any _ _ HT.out _).mono ?_; rintro e w ⟨rfl, rfl⟩)
    go_ret3
    exact ⟨rfl, rfl⟩
  · have HT : Hid (Say true (0 ≤ t ∧ t ≤ 1099511627776)) := Say.yes h
    have h3 : decide ((2000 : Int) < (n : Int)) = true := by simp; omega
    have h4 : (2000 < n) = True := by simpa using h2
    clear h h2
    go_enter Try.func10, Try.ntmps10
    go_wp2_with (go_at_call 18; refine (timeMay_any _ _ HT.out _).mono ?_; rintro e w ⟨rfl, rfl⟩)
    go_ret3
    exact ⟨rfl, rfl⟩
/-- One contract for both: the same codes, the same rows, the same error. -/
theorem both (t : Int) (v u : Value) (ds : List Dd) (w : World) (hv : DeedsAt w v ds) (hu : Trips w u ds) (hv2 : ∃ p cap, v = .slice p ds.length cap) (hwf : ∀ d, d ∈ ds → wfD d) :
    ∃ (cs : List Int) (rs : List (List Int)) (c : Int), cs.length ≤ 2000 ∧ rs.length ≤ 2000 ∧
      (Calls Try.prog 9 #[.int .i64 t, v] w fun e w' => ∃ tv dv, e = .returned (.tuple #[tv, dv, .int .i64 c]) ∧ ListAt w' tv cs ∧ RowsAt w' dv rs ∧ Below w.heap.size w w') ∧
      (∀ W, Trips W u ds → Calls Try.prog 10 #[.int .i64 t, u] W fun e w' => ∃ tv dv, e = .returned (.tuple #[tv, dv, .int .i64 c]) ∧ ListAt w' tv cs ∧ RowsAt w' dv rs ∧ Below W.heap.size W w') := by
  by_cases hg : (0 ≤ t ∧ t ≤ 1099511627776) ∧ ds.length ≤ 2000
  · obtain ⟨now, rfl⟩ : ∃ m : Nat, t = (m : Int) := ⟨t.toNat, by omega⟩
    refine ⟨codes ⟨now, 0, []⟩ ds, rows ⟨now, 0, []⟩ ds, 0, by unfold codes; rw [List.length_map, play_len]; exact hg.2, by unfold rows; rw [List.length_map, play_len]; exact hg.2, ?_, fun W hW => ?_⟩
    · exact play_any now v ds w hv (fun d hd => (hwf d hd).2) (by omega) hg.2
    · exact played_any now u ds W hW (by omega) hg.2
  · obtain ⟨c, hc⟩ : ∃ c, Bad t ds.length c := by
      by_cases h1 : 0 ≤ t ∧ t ≤ 1099511627776
      · exact ⟨1, Or.inr ⟨rfl, h1, by omega⟩⟩
      · exact ⟨2, Or.inl ⟨rfl, h1⟩⟩
    obtain ⟨p, cap, rfl⟩ := hv2
    obtain ⟨p2, cap2, rfl, _⟩ := hu
    refine ⟨[], [], c, by simp, by simp, (play_bad t c p ds.length cap w hc).mono ?_, fun W hW => (played_bad t c p2 ds.length cap2 W hc).mono ?_⟩
    · rintro e w' ⟨rfl, rfl⟩
      exact ⟨_, _, rfl, list_none _, rows_none _, Below.refl _ _⟩
    · rintro e w' ⟨rfl, rfl⟩
      exact ⟨_, _, rfl, list_none _, rows_none _, Below.refl _ _⟩
set_option maxHeartbeats 4000000 in
theorem wheelPlays_walk (t : Int) (v : Value) (ds : List Dd) (w : World) (hd : Trips w v ds) (hwf : ∀ d, d ∈ ds → wfD d) (hb : ds.length * 24 ≤ 140737488355328) :
    Calls Try.prog 3 #[.int .i64 t, v] w fun e w' => e = .returned (.bool true) ∧ Below w.heap.size w w' := by
  obtain ⟨p, cap, hv⟩ : ∃ p cap, v = .slice p ds.length cap := by obtain ⟨p, cap, h, _⟩ := hd; exact ⟨p, cap, h⟩
  subst hv
  have HD : Hid (Trips w (.slice p ds.length cap) ds ∧ ds.length * 24 ≤ 140737488355328 ∧ ∀ d, d ∈ ds → wfD d) := ⟨hd, hb, hwf⟩
  clear hd hb hwf
  go_enter Try.func3, Try.ntmps3
  go_wp2_with (at_builtin; refine wpList_copy _ (by rfl) _ _ (by rfl) (.slice p ds.length cap) ds (by rfl) (by rfl) HD.out.1 HD.out.2.1 ?_; intro v' w1 hown hB1)
  obtain ⟨p', cap', hv'⟩ := al_shape hown
  obtain ⟨cs, rs, c, hcs, hrs, hC1, hC2⟩ := both t v' (.slice p ds.length cap) ds w1 (deeds_own hown) (HD.out.1.below hB1) ⟨p', cap', hv'⟩ HD.out.2.2
  subst hv'
  have HB1 : Hid (Below w.heap.size w w1) := hB1
  have HC2 : Hid (∀ W, Trips W (.slice p ds.length cap) ds → Calls Try.prog 10 #[.int .i64 t, .slice p ds.length cap] W fun e w' => ∃ tv dv, e = .returned (.tuple #[tv, dv, .int .i64 c]) ∧ ListAt w' tv cs ∧ RowsAt w' dv rs ∧ Below W.heap.size W w') := hC2
  have HN : Hid (cs.length ≤ 2000 ∧ rs.length ≤ 2000) := ⟨hcs, hrs⟩
  clear hown hB1 hC2 hcs hrs
  refine hC1.mono ?_
  rintro e w2 ⟨tv, dv, rfl, hL, hR, hB2⟩
  have HL : Hid (ListAt w2 tv cs ∧ RowsAt w2 dv rs) := ⟨hL, hR⟩
  have HB2 : Hid (Below w.heap.size w w2) := HB1.out.trans (hB2.mono HB1.out.size)
  clear hL hR hB2 hC1
  go_wp2_with fail
  refine (HC2.out _ (HD.out.1.below HB2.out)).mono ?_
  rintro e w3 ⟨tv', dv', rfl, hL, hR, hB3⟩
  have HL2 : Hid (ListAt w3 tv cs ∧ RowsAt w3 dv rs ∧ ListAt w3 tv' cs ∧ RowsAt w3 dv' rs) := ⟨HL.out.1.below hB3, HL.out.2.below hB3, hL, hR⟩
  have HB3 : Hid (Below w.heap.size w w3) := HB2.out.trans (hB3.mono HB2.out.size)
  clear hL hR hB3
  have HE : Hid (∀ W : World, ListAt W tv cs → ListAt W tv' cs → Calls Try.prog 11 #[tv, tv'] W fun e w' => e = .returned (.bool true) ∧ ∃ n, w' = W.drewN n) := fun W h1 h2 => by
    have h := lawErrs_any tv tv' cs cs W h1 h2 HN.out.1 HN.out.1
    rw [show decide (cs = cs) = true by simp] at h
    exact h
  go_wp2_with (first | (go_at_call 11; refine (HE.out _ HL2.out.1 HL2.out.2.2.1).mono ?_; rintro e w4 ⟨rfl, n1, rfl⟩) | (go_at_call 12; refine (sameRows_same dv dv' rs (w3.drewN n1) HL2.out.2.1 HL2.out.2.2.2 HN.out.2).mono ?_; rintro e w5 ⟨rfl, n2, rfl⟩))
  go_ret
  exact ⟨rfl, below_drewN HB3.out _⟩
theorem bytes36 : Try.prog.bytesOf 36 = 24 := by kernel_rfl
theorem slice_len {H : Type} {enc : TypeId × Value → H} {W : World} {base : Nat} {spare : Nat → Bool} {held : Bool} {t e : TypeId} {a : Option Addr} {len cap : Nat} {d : DataW H} {p : List MemPlace} (ht : Try.prog.underlying t = some (.slice e))
    (h : DataW.Trod enc Try.prog W base spare held t (.slice a len cap) d p) : len = 0 ∨ ∃ elems sp, d = .slice elems sp ∧ elems.length = len := by
  obtain ⟨fuel, hf⟩ := h
  rcases open_slice ht hf with ⟨hcs, _⟩ | ⟨x, l, c, m, n, D, Pl, hcs, _, hl, hm, hme, hx, hcell⟩
  · simp [Value.cells] at hcs
    exact Or.inl hcs.2.1
  · simp [Value.cells] at hcs
    obtain ⟨rfl, rfl, rfl⟩ := hcs
    simp at hx
    exact Or.inr ⟨_, _, hx.1, by simp⟩
theorem deeds_bound {H : Type} {enc : TypeId × Value → H} {W : World} {base : Nat} {spare : Nat → Bool} {held : Bool} {a : Option Addr} {len cap j : Nat} {d : DataW H} {p : List MemPlace} {ts : List TypeId} {ds : List (DataW H)}
    (h : DataW.Trod enc Try.prog W base spare held 22 (.slice a len cap) d p) (hsz : (DataW.weightsEach Try.prog ts ds).all (· ≤ reachBytes) = true) (h1 : ts[j]? = some 22) (h2 : ds[j]? = some d) : len * 24 ≤ 140737488355328 := by
  rcases slice_len Try.underlying22 h with rfl | ⟨elems, sp, rfl, rfl⟩
  · omega
  · have := sized_slice hsz h1 h2 Try.underlying22
    rw [bytes36] at this
    have hr : reachBytes ≤ 140737488355328 := by decide
    have e : elems.length * 24 ≤ (elems.length + sp.length) * 24 := Nat.mul_le_mul_right _ (by omega)
    omega
end Go.Proofs.Ytccddjfcceclnaa
