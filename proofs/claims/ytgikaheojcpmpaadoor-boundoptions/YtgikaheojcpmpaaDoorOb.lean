/-
  The reference's options: what each of them says is what the program tells.
-/
import Derived.Test.YtgikaheojcpmpaaDoorO8
import Derived.Test.YtgikaheojcpmpaaDoorO9
import Derived.Test.YtgikaheojcpmpaaDoorOa
import Derived.Test.YtgikaheojcpmpaaDoorL
namespace Go.Proofs.YtgikaheojcpmpaaDoor
open Go.ChangeShapes Go.WideShapes Go.ChangeAt Go.RowKit Go.Maps
set_option linter.unusedVariables false
set_option linter.unusedSimpArgs false
set_option maxRecDepth 20000
set_option maxHeartbeats 1000000 in
theorem optref_any (r l h : Int) (w : World) :
    Calls Tryd.prog 12 #[.agg #[.int .i64 r, .int .i64 l, .int .i64 h]] w fun e w' => e = .returned (.int .i64 (optE r l h)) ∧ Below w.heap.size w w' := by
  rcases opt_cases r l h with h0 | ⟨h0, h1⟩ | ⟨h0, h1, h2⟩ | ⟨h0, h1, h2, h3⟩ | ⟨h0, h1, h2, h3, h4⟩ | ⟨h0, h1, h2, h3, h4, h5⟩ | ⟨h0, h1, h2, h3, h4⟩ | ⟨h0, h1, h2, h3, h4, h5, h6⟩ | ⟨h0, h1, h2, h3, h4, h5, h6⟩
  · rw [show optE r l h = 3 from by unfold optE; rw [if_neg (by omega)]]
    go_enter Tryd.func12, Tryd.ntmps12
    go_wp2
    go_ret
    exact ⟨rfl, by go_grown⟩
  · rw [show optE r l h = 3 from by unfold optE; rw [if_neg (by omega)]]
    go_enter Tryd.func12, Tryd.ntmps12
    go_wp2
    go_ret
    exact ⟨rfl, by go_grown⟩
  · rw [show optE r l h = 2 from by unfold optE; rw [if_pos (by omega), if_neg (by omega)]]
    go_enter Tryd.func12, Tryd.ntmps12
    go_wp2
    go_ret
    exact ⟨rfl, by go_grown⟩
  · rw [show optE r l h = 2 from by unfold optE; rw [if_pos (by omega), if_neg (by omega)]]
    go_enter Tryd.func12, Tryd.ntmps12
    go_wp2
    go_ret
    exact ⟨rfl, by go_grown⟩
  · rw [show optE r l h = 2 from by unfold optE; rw [if_pos (by omega), if_neg (by omega)]]
    go_enter Tryd.func12, Tryd.ntmps12
    go_wp2
    go_ret
    exact ⟨rfl, by go_grown⟩
  · rw [show optE r l h = 2 from by unfold optE; rw [if_pos (by omega), if_neg (by omega)]]
    go_enter Tryd.func12, Tryd.ntmps12
    go_wp2
    go_ret
    exact ⟨rfl, by go_grown⟩
  · rw [show optE r l h = 0 from by unfold optE; rw [if_pos (by omega), if_pos (by omega), if_neg (by omega)]]
    subst h4
    go_enter Tryd.func12, Tryd.ntmps12
    go_wp2
    go_ret
    exact ⟨rfl, by go_grown⟩
  · rw [show optE r l h = 0 from by unfold optE; rw [if_pos (by omega), if_pos (by omega), if_neg (by omega)]]
    have hn : (h != -1) = true := by simp; omega
    go_enter Tryd.func12, Tryd.ntmps12
    go_wp2
    go_ret
    exact ⟨rfl, by go_grown⟩
  · rw [show optE r l h = 11 from by unfold optE; rw [if_pos (by omega), if_pos (by omega), if_pos (by omega)]]
    have hn : (h != -1) = true := by simp; omega
    go_enter Tryd.func12, Tryd.ntmps12
    go_wp2
    go_ret
    exact ⟨rfl, by go_grown⟩
theorem neg_way {Z : Mx} (hb : Bnd 4 1073741824 Z) {a b : Nat} (ha : a < 4) (hb' : b < 4) (h1 : Z a b ≠ 1152921504606846976) (h2 : Z b a ≠ 1152921504606846976) (h : Z a b + Z b a < 0) : ¬ Gd 4 4 Z := fun hg => by
  have hB : Bnd 4 2147483648 Z := hb.mono (by decide)
  have hc := fw_cls (by decide) hB (Nat.le_refl 4) hg
  have m1 : fw Z 4 a b ≤ Z a b := fw_mono Z (Nat.zero_le 4) a b
  have m2 : fw Z 4 b a ≤ Z b a := fw_mono Z (Nat.zero_le 4) b a
  have b1 := hb a b ha hb'
  have b2 := hb b a hb' ha
  have hd := hg 4 (Nat.le_refl _) a ha
  have := hc a b a ha hb' ha (by omega) (by omega)
  omega
def teE : Mx := tellZ 13 pmI (am pmI (am pmI fre 0 1 0) 2 3 0)
theorem teE02 : teE 0 2 = 0 := by decide
theorem teE20 : teE 2 0 = 0 := by decide
theorem am_same {Z : Mx} {p q : Nat} {m : Int} (h : Z p q ≤ m) : am pmI Z p q m = Z := by
  funext a b
  unfold am upd
  split
  · rename_i e
    obtain ⟨e1, e2⟩ := e
    have e1' : a = p := e1
    have e2' : b = q := e2
    subst e1' e2'
    show min (Z a b) m = Z a b
    omega
  · rfl
theorem am_here {Z : Mx} {p q : Nat} {m : Int} : am pmI Z p q m p q = min (Z p q) m := by
  unfold am upd
  rw [if_pos ⟨rfl, rfl⟩]; rfl
theorem am_else {Z : Mx} {p q a b : Nat} {m : Int} (h : ¬ (a = p ∧ b = q)) : am pmI Z p q m a b = Z a b := by
  unfold am upd pmI
  rw [if_neg h]
theorem told13 (lo hi : Int) : toldZ 13 pmI lo hi = if hi = -1 then am pmI teE 2 0 (-lo) else am pmI (am pmI teE 2 0 (-lo)) 0 2 hi := rfl
theorem ref13 (lo hi : Int) : refZ 13 pmI lo hi = if hi = -1 then am pmI teE 0 2 (-lo) else am pmI (am pmI teE 0 2 (-lo)) 2 0 hi := rfl
theorem ref_ok {v : Nat} {pm : Nat → Nat} {lo hi : Int} (hv : v = 13) (hlt : ∀ k, k < 4 → pm k < 4) (hne : ∀ p q, p < 4 → q < 4 → p ≠ q → pm p ≠ pm q) (h1 : 0 ≤ lo) (h2 : lo ≤ 1073741824) (h3 : hi = -1 ∨ (lo ≤ hi ∧ hi ≤ 1073741824)) : OkZ (refZ v pm lo hi) := by
  have D : ∀ (Z : Mx) (p q : Nat) (m : Int), p < 4 → q < 4 → p ≠ q → -1073741824 ≤ m → m ≤ 1073741824 → OkZ Z → OkZ (am pm Z p q m) := fun Z p q m hp hq hpq a b h => ⟨am_diag h.1 (hne p q hp hq hpq), am_bnd h.2 a b (hlt p hp) (hlt q hq)⟩
  have F : OkZ fre := ⟨fre_diag, fre_bnd⟩
  subst hv
  unfold refZ
  split <;> simp only [tellZ, rF, rT] <;> repeat (first | exact F | (refine D _ _ _ _ (by decide) (by decide) (by decide) (by omega) (by omega) ?_))
theorem ref13_or {lo hi : Int} (h1 : 0 ≤ lo) (h2 : lo ≤ 1073741824) (h3 : hi = -1 ∨ (lo ≤ hi ∧ hi ≤ 1073741824)) : refZ 13 pmI lo hi = toldZ 13 pmI lo hi ∨ (¬ Gd 4 4 (refZ 13 pmI lo hi) ∧ ¬ Gd 4 4 (toldZ 13 pmI lo hi)) := by
  by_cases h0 : lo = 0
  · left
    subst h0
    rw [told13, ref13]
    have e1 : am pmI teE 2 0 (-0) = teE := am_same (by rw [teE20]; decide)
    have e2 : am pmI teE 0 2 (-0) = teE := am_same (by rw [teE02]; decide)
    rw [e1, e2]
    split
    · rfl
    · rw [am_same (by rw [teE20]; omega), am_same (by rw [teE02]; omega)]
  · right
    constructor
    · have ok := ref_ok (v := 13) (pm := pmI) rfl pmI_lt pmI_ne h1 h2 h3
      refine neg_way ok.2 (a := 0) (b := 2) (by decide) (by decide) ?_ ?_ ?_ <;> rw [ref13] <;> split <;> (try rw [am_else (p := 2) (q := 0) (a := 0) (b := 2) (by decide)]) <;> (try rw [am_here (p := 2) (q := 0)]) <;> (try rw [am_here (p := 0) (q := 2)]) <;> (try rw [am_else (p := 0) (q := 2) (a := 2) (b := 0) (by decide)]) <;> (try rw [teE02]) <;> (try rw [teE20]) <;> omega
    · have ok := told_ok (v := 13) (pm := pmI) (by omega) pmI_lt pmI_ne h1 h2 h3
      refine neg_way ok.2 (a := 2) (b := 0) (by decide) (by decide) ?_ ?_ ?_ <;> rw [told13] <;> split <;> (try rw [am_else (p := 0) (q := 2) (a := 2) (b := 0) (by decide)]) <;> (try rw [am_here (p := 0) (q := 2)]) <;> (try rw [am_here (p := 2) (q := 0)]) <;> (try rw [am_else (p := 2) (q := 0) (a := 0) (b := 2) (by decide)]) <;> (try rw [teE02]) <;> (try rw [teE20]) <;> omega
theorem ref_or {rn : Nat} {lo hi : Int} (hr : rn ≤ 13) (h1 : 0 ≤ lo) (h2 : lo ≤ 1073741824) (h3 : hi = -1 ∨ (lo ≤ hi ∧ hi ≤ 1073741824)) : refZ (upv rn) (upm rn) lo hi = toldZ (upv rn) (upm rn) lo hi ∨ (¬ Gd 4 4 (refZ (upv rn) (upm rn) lo hi) ∧ ¬ Gd 4 4 (toldZ (upv rn) (upm rn) lo hi)) := by
  by_cases c : rn = 13
  · subst c
    exact ref13_or h1 h2 h3
  · left
    have hv : upv rn ≠ 13 := by unfold upv; split <;> omega
    unfold refZ toldZ rF rT
    rw [if_neg hv, if_neg hv]
/-- What the reference says of an option. -/
def Bres (w w' : World) (e : Ending) (o : Op3) : Prop :=
  (canB o = true ∧ ∃ V, e = .returned (.tuple #[V, .bool true]) ∧ New w w' V 4 (fun _ => 4) (fw (tzO o) 4)) ∨ (canB o = false ∧ e = .returned (.tuple #[.slice none 0 0, .bool false]))
theorem optB_all (rn : Nat) (lo hi : Int) (w : World) (hr1 : 1 ≤ rn) (hr : rn ≤ 13) (h1 : 0 ≤ lo) (h2 : lo ≤ 1073741824) (h3 : hi = -1 ∨ (lo ≤ hi ∧ hi ≤ 1073741824)) :
    Calls Tryd.prog 13 #[.agg #[.int .i64 (rn : Int), .int .i64 lo, .int .i64 hi]] w fun e w' => Tres w w' e 4 (tgt 4 5 (refZ (upv rn) (upm rn) lo hi)) ∧ Below w.heap.size w w' := by
  rcases (by omega : rn = 1 ∨ rn = 2 ∨ rn = 3 ∨ rn = 4 ∨ rn = 5 ∨ rn = 6 ∨ rn = 7 ∨ rn = 8 ∨ rn = 9 ∨ rn = 10 ∨ rn = 11 ∨ rn = 12 ∨ rn = 13) with rfl | rfl | rfl | rfl | rfl | rfl | rfl | rfl | rfl | rfl | rfl | rfl | rfl
  · exact optB_1 lo hi w h1 h2 h3
  · exact optB_2 lo hi w h1 h2 h3
  · exact optB_3 lo hi w h1 h2 h3
  · exact optB_4 lo hi w h1 h2 h3
  · exact optB_5 lo hi w h1 h2 h3
  · exact optB_6 lo hi w h1 h2 h3
  · exact optB_7 lo hi w h1 h2 h3
  · exact optB_8 lo hi w h1 h2 h3
  · exact optB_9 lo hi w h1 h2 h3
  · exact optB_10 lo hi w h1 h2 h3
  · exact optB_11 lo hi w h1 h2 h3
  · exact optB_12 lo hi w h1 h2 h3
  · exact optB_13 lo hi w h1 h2 h3
theorem optB_any (o : Op3) (rn : Nat) (w : World) (hrn : o.r = (rn : Int)) (hok : optE o.r o.lo o.hi = 0) :
    Calls Tryd.prog 13 #[.agg #[.int .i64 (rn : Int), .int .i64 o.lo, .int .i64 o.hi]] w fun e w' => Bres w w' e o ∧ Below w.heap.size w w' := by
  obtain ⟨b1, b2, b3, b4, b5⟩ := optE_ok hok
  have ok := tz_ok hok
  have htz : tzO o = toldZ (upv rn) (upm rn) o.lo o.hi := by unfold tzO; rw [hrn, show ((rn : Int)).toNat = rn by omega]
  have hgi := gd_iff (n := 4) ok.1
  have hbd : Bnd 4 2147483648 (tzO o) := ok.2.mono (by decide)
  refine (optB_all rn o.lo o.hi w (by omega) (by omega) b3 b4 b5).mono ?_
  rintro e w' ⟨hT, hB⟩
  refine ⟨?_, hB⟩
  have fin : ∀ m : Mx, Bnd 4 2147483648 m → (∀ i, i < 4 → m i i = 0) → (m = tzO o ∨ (¬ Gd 4 4 m ∧ ¬ Gd 4 4 (tzO o))) → Tres w w' e 4 (tgt 4 5 m) → Bres w w' e o := fun m hm hd hor hT => by
    by_cases hg : Gd 4 4 m
    · rcases hor with rfl | ⟨h, _⟩
      · obtain ⟨R, hR, hRe⟩ := tgt_good (n := 4) (by decide) hm hg
        have hR' : tgt 4 5 (tzO o) = some R := hR
        rw [hR'] at hT
        obtain ⟨V, rfl, hN⟩ := hT
        refine .inl ⟨?_, V, rfl, hN.congr (fun _ _ => rfl) (fun i hi j hj => hRe i j hi hj)⟩
        unfold canB
        rw [hgi.1 hg]; rfl
      · exact absurd hg h
    · have hR' : tgt 4 5 m = none := tgt_bad (n := 4) (by decide) hm hd hg
      rw [hR'] at hT
      refine .inr ⟨?_, hT⟩
      have hng : ¬ Gd 4 4 (tzO o) := by
        rcases hor with rfl | ⟨_, h⟩
        · exact hg
        · exact h
      unfold canB
      cases hn : ngb (fw (tzO o) 4) 4 with
      | true => rfl
      | false => exact absurd (hgi.2 hn) hng
  have hor := ref_or (rn := rn) (by omega) b3 b4 b5
  rw [← htz] at hor
  have okr : OkZ (refZ (upv rn) (upm rn) o.lo o.hi) := by
    by_cases c : rn = 13
    · subst c
      exact ref_ok (v := 13) (pm := pmI) rfl pmI_lt pmI_ne b3 b4 b5
    · rcases hor with h | _
      · rw [h]; exact ok
      · have hv : upv rn ≠ 13 := by unfold upv; split <;> omega
        have e : refZ (upv rn) (upm rn) o.lo o.hi = toldZ (upv rn) (upm rn) o.lo o.hi := by
          unfold refZ toldZ rF rT
          rw [if_neg hv, if_neg hv]
        rw [e, ← htz]; exact ok
  exact fin _ (okr.2.mono (by decide)) okr.1 hor hT
end Go.Proofs.YtgikaheojcpmpaaDoor
