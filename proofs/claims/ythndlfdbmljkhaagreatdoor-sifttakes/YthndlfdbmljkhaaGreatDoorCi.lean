/-
  Options, and fields that are summed up, by the reference.
-/
import Derived.Test.YthndlfdbmljkhaaGreatDoorCd
namespace Go.Proofs.YthndlfdbmljkhaaGreatDoor.Chk
open Go.ChangeShapes Go.WideShapes Go.ChangeAt Go.RowKit Go.Maps
set_option linter.unusedVariables false
set_option linter.unusedSimpArgs false
set_option maxRecDepth 20000
theorem hid' {p : Prop} (h : p) : Hid p := h
/-- What is wrong with an option. -/
def ock (r lo hi : Int) : Int := if ¬ (1 ≤ r ∧ r ≤ 13) then 3 else if ¬ (0 ≤ lo ∧ lo ≤ 1073741824) ∨ ¬ (-1 ≤ hi ∧ hi ≤ 1073741824) then 2 else if hi ≠ -1 ∧ hi < lo then 11 else 0
set_option maxHeartbeats 4000000 in
theorem optionFault_any (r lo hi : Int) (w : World) : Calls Tryz.prog 124 #[.agg #[.int .i64 r, .int .i64 lo, .int .i64 hi]] w fun e w' => e = .returned (.int .i64 (ock r lo hi)) ∧ Below w.heap.size w w' := by
  unfold ock
  by_cases h1 : 1 ≤ r ∧ r ≤ 13
  · have H1 : Hid (∀ W, Calls Tryz.prog 17 #[.int .i64 r, .int .i64 1, .int .i64 13] W fun e w' => e = .returned (.bool true) ∧ w' = W) := fun W => in_any r _ _ true (say_true h1) W
    rw [if_neg (fun c => c h1)]
    by_cases h2 : 0 ≤ lo ∧ lo ≤ 1073741824
    · have H2 : Hid (∀ W, Calls Tryz.prog 17 #[.int .i64 lo, .int .i64 0, .int .i64 1073741824] W fun e w' => e = .returned (.bool true) ∧ w' = W) := fun W => in_any lo _ _ true (say_true h2) W
      by_cases h3 : -1 ≤ hi ∧ hi ≤ 1073741824
      · have H3 : Hid (∀ W, Calls Tryz.prog 17 #[.int .i64 hi, .int .i64 (-1), .int .i64 1073741824] W fun e w' => e = .returned (.bool true) ∧ w' = W) := fun W => in_any hi _ _ true (say_true h3) W
        rw [if_neg (by rintro (c | c); exact c h2; exact c h3)]
        by_cases h4 : hi = -1
        · subst h4
          rw [if_neg (fun c => c.1 rfl)]
          clear h1 h2 h3
          go_enter Tryz.func124, Tryz.ntmps124
          go_wp2_with (first
            | (go_at_call_of 17 (Value.int .i64 13); refine (H1.out _).mono ?_; rintro e w' ⟨rfl, rfl⟩)
            | (go_at_call_of 17 (Value.int .i64 0); refine (H2.out _).mono ?_; rintro e w' ⟨rfl, rfl⟩)
            | (go_at_call 17; refine (H3.out _).mono ?_; rintro e w' ⟨rfl, rfl⟩))
          go_ret
          exact ⟨rfl, by go_grown⟩
        · have b1 : (hi == -1) = false := by simpa using h4
          have b2 : (hi != -1) = true := by simpa using h4
          by_cases h5 : hi < lo
          · rw [if_pos ⟨h4, h5⟩]
            clear h1 h2 h3
            go_enter Tryz.func124, Tryz.ntmps124
            go_wp2_with (first
              | (go_at_call_of 17 (Value.int .i64 13); refine (H1.out _).mono ?_; rintro e w' ⟨rfl, rfl⟩)
              | (go_at_call_of 17 (Value.int .i64 0); refine (H2.out _).mono ?_; rintro e w' ⟨rfl, rfl⟩)
              | (go_at_call 17; refine (H3.out _).mono ?_; rintro e w' ⟨rfl, rfl⟩))
            go_ret
            exact ⟨rfl, by go_grown⟩
          · rw [if_neg (fun c => h5 c.2)]
            clear h1 h2 h3
            go_enter Tryz.func124, Tryz.ntmps124
            go_wp2_with (first
              | (go_at_call_of 17 (Value.int .i64 13); refine (H1.out _).mono ?_; rintro e w' ⟨rfl, rfl⟩)
              | (go_at_call_of 17 (Value.int .i64 0); refine (H2.out _).mono ?_; rintro e w' ⟨rfl, rfl⟩)
              | (go_at_call 17; refine (H3.out _).mono ?_; rintro e w' ⟨rfl, rfl⟩))
            go_ret
            exact ⟨rfl, by go_grown⟩
      · have H3 : Hid (∀ W, Calls Tryz.prog 17 #[.int .i64 hi, .int .i64 (-1), .int .i64 1073741824] W fun e w' => e = .returned (.bool false) ∧ w' = W) := fun W => in_any hi _ _ false (say_false h3) W
        rw [if_pos (.inr h3)]
        clear h1 h2 h3
        go_enter Tryz.func124, Tryz.ntmps124
        go_wp2_with (first
          | (go_at_call_of 17 (Value.int .i64 13); refine (H1.out _).mono ?_; rintro e w' ⟨rfl, rfl⟩)
          | (go_at_call_of 17 (Value.int .i64 0); refine (H2.out _).mono ?_; rintro e w' ⟨rfl, rfl⟩)
          | (go_at_call 17; refine (H3.out _).mono ?_; rintro e w' ⟨rfl, rfl⟩))
        go_ret
        exact ⟨rfl, by go_grown⟩
    · have H2 : Hid (∀ W, Calls Tryz.prog 17 #[.int .i64 lo, .int .i64 0, .int .i64 1073741824] W fun e w' => e = .returned (.bool false) ∧ w' = W) := fun W => in_any lo _ _ false (say_false h2) W
      rw [if_pos (.inl h2)]
      clear h1 h2
      go_enter Tryz.func124, Tryz.ntmps124
      go_wp2_with (first
        | (go_at_call_of 17 (Value.int .i64 13); refine (H1.out _).mono ?_; rintro e w' ⟨rfl, rfl⟩)
        | (go_at_call_of 17 (Value.int .i64 0); refine (H2.out _).mono ?_; rintro e w' ⟨rfl, rfl⟩))
      go_ret
      exact ⟨rfl, by go_grown⟩
  · have H1 : Hid (∀ W, Calls Tryz.prog 17 #[.int .i64 r, .int .i64 1, .int .i64 13] W fun e w' => e = .returned (.bool false) ∧ w' = W) := fun W => in_any r _ _ false (say_false h1) W
    rw [if_pos h1]
    clear h1
    go_enter Tryz.func124, Tryz.ntmps124
    go_wp2_with (first
      | (go_at_call_of 17 (Value.int .i64 13); refine (H1.out _).mono ?_; rintro e w' ⟨rfl, rfl⟩))
    go_ret
    exact ⟨rfl, by go_grown⟩
/-- What is wrong with a field that is to be summed up. -/
def sck (fs : List Fd) (n : ByteArray) : Int := if (fck fs n).2 ≠ 0 then 6 else if (fck fs n).1 = 1 then 0 else 13
structure BlkT (w0 w : World) (us : List Value) (t : TypeId) : Prop where
  bel : Below w0.heap.size w0 w
  b1 : w.heap[w0.heap.size]? = some (.cells us.toArray t (0, 0))
theorem BlkT.start (w : World) (us : List Value) (t : TypeId) : BlkT w (w.alloc (.cells us.toArray t)) us t := ⟨(Below.refl _ _).alloc (Nat.le_refl _) _, heap_alloc_new _ _⟩
theorem BlkT.next {w0 w w' : World} {us : List Value} {t : TypeId} (h : BlkT w0 w us t) (hb : Below w.heap.size w w') : BlkT w0 w' us t := ⟨below_trans h.bel hb h.bel.size, (hb.block _ (blk_lt h.b1)).trans h.b1⟩
theorem BlkT.c {w0 w : World} {us : List Value} {t : TypeId} (h : BlkT w0 w us t) (j : Nat) : w.cell? ⟨w0.heap.size, j, none⟩ = us[j]? := by rw [cell_of_blk h.b1]; simp
set_option maxHeartbeats 4000000 in
theorem sumFault_any (tn : ByteArray) (tf : List Fd) (v : Value) (nm : ByteArray) (w : World) (hF : Rd w (.row 93 2 (tf.map encF)) v) : Calls Tryz.prog 74 #[.agg #[.string tn, v], .string nm] w fun e w' => e = .returned (.int .i64 (sck tf nm)) ∧ Below w.heap.size w w' := by
  have hfa := fun W (hW : Below w.heap.size w W) => fieldAt_any tn tf v nm W (hF.later hW)
  obtain ⟨p, cap, rfl, hmx, hat⟩ := rd_row lenF hF
  obtain ⟨n, hn⟩ : ∃ n, tf.length = n := ⟨_, rfl⟩
  have HN := hid' hn
  have HAT : Hid (At encF 2 w p tf) := hat
  rw [hn] at hfa hmx ⊢
  have HB1 : Hid (BlkT w (w.alloc (.cells [.string tn, .slice p n cap].toArray 72)) [.string tn, .slice p n cap] 72) := BlkT.start w _ _
  unfold sck
  rcases ixq_lt (q := fun f : Fd => seq f.n nm) tf 0 with c | ⟨j, hj, c, hqq⟩
  · have c0 : fdq tf nm = -1 := c
    rw [fck_none c0, if_pos (by decide)]
    rw [c0] at hfa
    have HFA := hid' hfa
    clear hF hat hn c c0 hfa
    go_enter Tryz.func74, Tryz.ntmps74
    go_wp2_with (first
      | (go_at_call 123; refine (HFA.out _ HB1.out.bel).mono ?_; rintro e w5 ⟨rfl, hb_⟩; have HB5 : Hid (BlkT w w5 [.string tn, .slice p n cap] 72) := HB1.out.next hb_; clear hb_))
    go_ret
    exact ⟨rfl, HB5.out.bel⟩
  · have c0 : fdq tf nm = (j : Int) := by show ixq _ _ _ = _; rw [c]; simp
    rw [fck_some hj c0, if_neg (by simp)]
    rw [c0] at hfa
    have HFA := hid' hfa
    obtain ⟨g, off, rfl, hrd⟩ := hat (by omega)
    obtain ⟨fk, hfk⟩ : ∃ fk, tf[j].k = fk := ⟨_, rfl⟩
    have HCF : Hid (∀ W, Below w.heap.size w W → W.cell? ⟨g, off + j * 2 + 1, none⟩ = some (.int .i64 fk)) := fun W hW => by
      obtain ⟨us, r1, o1⟩ := hrd W hW j hj
      have z1 := rdF o1
      clear o1
      subst z1
      rw [← hfk]
      exact r1 1 _ rfl
    have i1 : (0 : Int) ≤ (j : Int) := by omega
    have i2 : (j : Int) < (n : Int) := by omega
    simp only [hfk]
    clear hqq hF hn c c0 hfa hrd hfk hj HAT
    by_cases hk : fk = 1
    · rw [if_pos hk]
      subst hk
      go_enter Tryz.func74, Tryz.ntmps74
      go_wp2_with (first
        | (go_at_call 123; refine (HFA.out _ HB1.out.bel).mono ?_; rintro e w5 ⟨rfl, hb_⟩; have HB5 : Hid (BlkT w w5 [.string tn, .slice (some ⟨g, off, none⟩) n cap] 72) := HB1.out.next hb_; have z1 : w5.cell? ⟨w.heap.size, 1, none⟩ = some (.slice (some ⟨g, off, none⟩) n cap) := HB5.out.c 1; have z2 := HCF.out _ HB5.out.bel; clear hb_))
      go_ret
      exact ⟨rfl, HB5.out.bel⟩
    · rw [if_neg hk]
      have b1 : (fk != 1) = true := by simpa using hk
      have b2 : (fk == 1) = false := by simpa using hk
      go_enter Tryz.func74, Tryz.ntmps74
      go_wp2_with (first
        | (go_at_call 123; refine (HFA.out _ HB1.out.bel).mono ?_; rintro e w5 ⟨rfl, hb_⟩; have HB5 : Hid (BlkT w w5 [.string tn, .slice (some ⟨g, off, none⟩) n cap] 72) := HB1.out.next hb_; have z1 : w5.cell? ⟨w.heap.size, 1, none⟩ = some (.slice (some ⟨g, off, none⟩) n cap) := HB5.out.c 1; have z2 := HCF.out _ HB5.out.bel; clear hb_))
      go_ret
      exact ⟨rfl, HB5.out.bel⟩
end Go.Proofs.YthndlfdbmljkhaaGreatDoor.Chk
