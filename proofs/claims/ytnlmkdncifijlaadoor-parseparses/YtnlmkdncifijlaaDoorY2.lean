/-
  The reference reads a side of a comparison, and a comparison.
-/
import Derived.Test.YtnlmkdncifijlaaDoorY1
import Derived.Test.YtnlmkdncifijlaaDoorF2
namespace Go.Proofs.YtnlmkdncifijlaaDoor.Ref
open Go.ChangeShapes Go.WideShapes Go.ChangeAt Go.RowKit Go.Maps
set_option linter.unusedVariables false
set_option linter.unusedSimpArgs false
set_option maxRecDepth 20000
/-- Behind a call's beginning: a reader, and a block of the call's own. -/
structure Loc (w0 : World) (g : Nat) (V : Value) (L : List Tk) (w : World) (s : St) (R : Nat) (cs : List Value) (T : TypeId) : Prop where
  env : Env w g V L s
  fr : Fr (fun i => i = g) w0 w
  lo : w0.heap.size ≤ R
  hi : g < w0.heap.size
  blk : w.heap[R]? = some (.cells cs.toArray T (0, 0))
section
variable {w0 w w' : World} {g R : Nat} {V : Value} {L : List Tk} {s s' : St} {cs : List Value} {T : TypeId}
theorem Loc.start (h : Env w0 g V L s) (cs : List Value) (T : TypeId) : Loc w0 g V L (w0.alloc (.cells cs.toArray T)) s w0.heap.size cs T :=
  ⟨h.alloc _, (Fr.refl _ _).alloc _, Nat.le_refl _, blk_lt h.blk, heap_alloc_new _ _⟩
theorem Loc.call (h : Loc w0 g V L w s R cs T) (he : Env w' g V L s') (hf : Fr (fun i => i = g) w w') : Loc w0 g V L w' s' R cs T :=
  ⟨he, h.fr.trans hf, h.lo, h.hi, (hf.block R (blk_lt h.blk) (by show ¬ R = g; have := h.lo; have := h.hi; omega)).trans h.blk⟩
theorem Loc.on (h : Loc w0 g V L w s R cs T) (hf : Fr (fun _ => False) w w') : Loc w0 g V L w' s R cs T :=
  h.call (h.env.fr hf) (hf.mono fun _ h _ => h.elim)
theorem Loc.alloc (h : Loc w0 g V L w s R cs T) (o : Obj) : Loc w0 g V L (w.alloc o) s R cs T := h.on ((Fr.refl _ _).alloc o)
theorem Loc.drewN (h : Loc w0 g V L w s R cs T) (n : Nat) : Loc w0 g V L (w.drewN n) s R cs T := h.on ((Fr.refl _ _).drewN n)
theorem Loc.step (h : Loc w0 g V L w s R cs T) (hi : s.i < L.length) : Loc w0 g V L (w.setCell ⟨g, 1, none⟩ (.int .i64 ((s.i : Int) + 1))) s.adv R cs T :=
  h.call (h.env.step hi) (fr_put _ _ _ _)
/-- A store into the call's own block. -/
theorem Loc.st {vs : List Value} {o : Nat} (h : Loc w0 g V L w s R cs T) (hb : w'.heap[R]? = some (.cells (ovr cs o vs).toArray T (0, 0))) (hf : Fr (fun i => i = R) w w') : Loc w0 g V L w' s R (ovr cs o vs) T := by
  have hlo := h.lo
  have hhi := h.hi
  have hg := blk_lt h.env.blk
  refine ⟨h.env.on hf.size (fun k hk => hf.block k (by omega) (by show ¬ k = R; omega)) ((hf.block g hg (by show ¬ g = R; omega)).trans h.env.blk) h.env.pos, h.fr.stored hf (.inr hlo), hlo, hhi, hb⟩
end
/-- As Loc, with a second block. -/
structure Lo2 (w0 : World) (g : Nat) (V : Value) (L : List Tk) (w : World) (s : St) (R : Nat) (cs : List Value) (T : TypeId) (M : Nat) (ds : List Value) (U : TypeId) : Prop where
  loc : Loc w0 g V L w s R cs T
  lo2 : w0.heap.size ≤ M
  ne : M ≠ R
  blk2 : w.heap[M]? = some (.cells ds.toArray U (0, 0))
section
variable {w0 w w' : World} {g R M : Nat} {V : Value} {L : List Tk} {s s' : St} {cs ds : List Value} {T U : TypeId}
theorem Loc.two (h : Loc w0 g V L w s R cs T) (ds : List Value) (U : TypeId) : Lo2 w0 g V L (w.alloc (.cells ds.toArray U)) s R cs T w.heap.size ds U :=
  ⟨h.alloc _, Nat.le_trans h.lo (Nat.le_of_lt (blk_lt h.blk)), by have := blk_lt h.blk; omega, heap_alloc_new _ _⟩
theorem Lo2.call (h : Lo2 w0 g V L w s R cs T M ds U) (he : Env w' g V L s') (hf : Fr (fun i => i = g) w w') : Lo2 w0 g V L w' s' R cs T M ds U :=
  ⟨h.loc.call he hf, h.lo2, h.ne, (hf.block M (blk_lt h.blk2) (by show ¬ M = g; have := h.lo2; have := h.loc.hi; omega)).trans h.blk2⟩
theorem Lo2.on (h : Lo2 w0 g V L w s R cs T M ds U) (hf : Fr (fun _ => False) w w') : Lo2 w0 g V L w' s R cs T M ds U :=
  h.call (h.loc.env.fr hf) (hf.mono fun _ h _ => h.elim)
theorem Lo2.alloc (h : Lo2 w0 g V L w s R cs T M ds U) (o : Obj) : Lo2 w0 g V L (w.alloc o) s R cs T M ds U := h.on ((Fr.refl _ _).alloc o)
theorem Lo2.drewN (h : Lo2 w0 g V L w s R cs T M ds U) (n : Nat) : Lo2 w0 g V L (w.drewN n) s R cs T M ds U := h.on ((Fr.refl _ _).drewN n)
theorem Lo2.env (h : Lo2 w0 g V L w s R cs T M ds U) : Env w g V L s := h.loc.env
theorem Lo2.blk (h : Lo2 w0 g V L w s R cs T M ds U) : w.heap[R]? = some (.cells cs.toArray T (0, 0)) := h.loc.blk
/-- A store into the second block. -/
theorem Lo2.st2 {vs : List Value} {o : Nat} (h : Lo2 w0 g V L w s R cs T M ds U) (hb : w'.heap[M]? = some (.cells (ovr ds o vs).toArray U (0, 0))) (hf : Fr (fun i => i = M) w w') : Lo2 w0 g V L w' s R cs T M (ovr ds o vs) U := by
  have hlo := h.lo2
  have hhi := h.loc.hi
  have hg := blk_lt h.loc.env.blk
  have hR := blk_lt h.loc.blk
  have hne := h.ne
  refine ⟨⟨h.loc.env.on hf.size (fun k hk => hf.block k (by omega) (by show ¬ k = M; omega)) ((hf.block g hg (by show ¬ g = M; omega)).trans h.loc.env.blk) h.loc.env.pos, h.loc.fr.stored hf (.inr hlo), h.loc.lo, hhi, (hf.block R hR (by show ¬ R = M; omega)).trans h.loc.blk⟩, hlo, hne, hb⟩
theorem Lo2.st {vs : List Value} {o : Nat} (h : Lo2 w0 g V L w s R cs T M ds U) (hb : w'.heap[R]? = some (.cells (ovr cs o vs).toArray T (0, 0))) (hf : Fr (fun i => i = R) w w') : Lo2 w0 g V L w' s R (ovr cs o vs) T M ds U :=
  ⟨h.loc.st hb hf, h.lo2, h.ne, (hf.block M (blk_lt h.blk2) h.ne).trans h.blk2⟩
theorem Lo2.apart {b : Nat} (h : Lo2 w0 g V L w s R cs T M ds U) (hf : Fr (fun i => i = b) w w') (h0 : w0.heap.size ≤ b) (h1 : R ≠ b) (h2 : M ≠ b) : Lo2 w0 g V L w' s R cs T M ds U := by
  have hhi := h.loc.hi
  have hg := blk_lt h.loc.env.blk
  exact ⟨⟨h.loc.env.on hf.size (fun k hk => hf.block k (by omega) (by show ¬ k = b; omega)) ((hf.block g hg (by show ¬ g = b; omega)).trans h.loc.env.blk) h.loc.env.pos, h.loc.fr.stored hf (.inr h0), h.loc.lo, hhi, (hf.block R (blk_lt h.loc.blk) h1).trans h.loc.blk⟩, h.lo2, h.ne, (hf.block M (blk_lt h.blk2) h2).trans h.blk2⟩
theorem Lo2.fr (h : Lo2 w0 g V L w s R cs T M ds U) : Fr (fun i => i = g) w0 w := h.loc.fr
end
theorem tchk_nu {t : Tk} (h : tchk t = 0) (hk : t.k = 2) : 0 ≤ t.n ∧ t.n ≤ 1125899906842624 := by
  unfold tchk at h
  rw [if_neg (by omega), if_pos hk] at h
  split at h
  · omega
  · split at h
    · omega
    · omega
set_option maxHeartbeats 4000000 in
theorem side_any (w : World) (g : Nat) (V : Value) (L : List Tk) (s : St) (h : Env w g V L s) :
    Calls Tryd.prog 51 #[rp g] w fun e w' => e = .returned (opV (sde L s).1) ∧ Env w' g V L (sde L s).2 ∧ Fr (fun i => i = g) w w' := by
  have hp := h.pos
  have hl := h.len
  have HL0 : Hid (Loc w g V L (w.alloc (.cells #[.int .i64 0, .int .i64 0, .int .i64 0, .string ⟨#[]⟩, .string ⟨#[]⟩, .string ⟨#[]⟩] 50)) s w.heap.size op0 50) := Loc.start h op0 _
  have hbd : -1125899906842624 ≤ (num L s.adv).1 ∧ (num L s.adv).1 ≤ 1125899906842624 := by
    unfold num
    split
    · rename_i hk
      have := tchk_nu (h.fin _ (nxt_mem (by rw [hk]; decide))) hk
      show -1125899906842624 ≤ (nxt L s.adv).n ∧ (nxt L s.adv).n ≤ 1125899906842624
      omega
    · exact ⟨show (-1125899906842624 : Int) ≤ 0 by decide, show (0 : Int) ≤ 1125899906842624 by decide⟩
  unfold sde
  obtain ⟨t, ht⟩ : ∃ t, nxt L s = t := ⟨_, rfl⟩
  have hlt : t.k ≠ 0 → s.e = 0 ∧ s.i < L.length := fun h0 => nxt_lt (by rw [ht]; exact h0)
  have HN0 : Hid (∀ W, Env W g V L s → Calls Tryd.prog 47 #[rp g] W fun e w' => e = .returned (tV t) ∧ Fr (fun _ => False) W w') := fun W hW => by
    have := next_any W g V L s hW
    rw [ht] at this
    exact this
  rw [ht]
  obtain ⟨k, tx, m⟩ := t
  have HN : Hid (∀ W, Env W g V L s → Calls Tryd.prog 47 #[rp g] W fun e w' => e = .returned (.agg #[.int .i64 k, .string tx, .int .i64 m]) ∧ Fr (fun _ => False) W w') := HN0
  clear HN0 ht
  simp only at hlt ⊢
  by_cases h2 : k = 2
  · have hb : (k == 2) = true := by simpa using h2
    rw [if_pos h2]
    have HI : Hid (s.i < L.length) := (hlt (by omega)).2
    have hq : (s.i : Int) ≤ 700 := by have := HI.out; omega
    clear h2 hlt h hbd hp hl
    go_enter Tryd.func51, Tryd.ntmps51
    go_wp2_with (first
      | (go_at_call 47; refine (HN.out _ HL0.out.env).mono ?_; rintro e w1 ⟨rfl, hf1⟩; have HL1 : Hid (Loc w g V L (w1.alloc (.cells #[.int .i64 k, .string tx, .int .i64 m] 65)) s w.heap.size op0 50) := (HL0.out.on hf1).alloc _; have c1 := HL1.out.env.c1; have f1 := HL1.out.env.fz 1; have hne1 : ¬ g = w1.heap.size := by { have := HL0.out.hi; have := hf1.size; simp at this; omega }; have hne2 : ¬ w1.heap.size = g := by { omega }; clear hf1; have HLP : Hid (Loc w g V L ((w1.alloc (.cells #[.int .i64 k, .string tx, .int .i64 m] 65)).setCell ⟨g, 1, none⟩ (.int .i64 ((s.i : Int) + 1))) s.adv w.heap.size op0 50) := HL1.out.step HI.out)
      | (refine wp_st (by rfl) 50 _ _ (by rfl) w.heap.size 0 op0 50 (opV ⟨1, 1, m, txt [], txt [], txt []⟩) (opC ⟨1, 1, m, txt [], txt [], txt []⟩) (by rfl) (by rfl) (by rfl) HLP.out.blk (Nat.le_of_ble_eq_true rfl) (by kernel_rfl) (by rfl) ?_; intro w9 hw9 hf9; have HL9 : Hid (Loc w g V L w9 s.adv w.heap.size (opC ⟨1, 1, m, txt [], txt [], txt []⟩) 50) := HLP.out.st hw9 hf9; clear hw9 hf9))
    refine ret_loc w.heap.size _ _ _ HL9.out.blk rfl rfl (by rfl) Tryd.underlying50 rfl (by kernel_rfl) ?_
    exact ⟨rfl, HL9.out.env, HL9.out.fr⟩
  have hb2 : (k == 2) = false := by simpa using h2
  rw [if_neg h2]
  by_cases h3 : k = 3
  · have hb : (k == 3) = true := by simpa using h3
    rw [if_pos h3]
    have HI : Hid (s.i < L.length) := (hlt (by omega)).2
    have hq : (s.i : Int) ≤ 700 := by have := HI.out; omega
    clear h2 h3 hlt h hbd hp hl
    go_enter Tryd.func51, Tryd.ntmps51
    go_wp2_with (first
      | (go_at_call 47; refine (HN.out _ HL0.out.env).mono ?_; rintro e w1 ⟨rfl, hf1⟩; have HL1 : Hid (Loc w g V L (w1.alloc (.cells #[.int .i64 k, .string tx, .int .i64 m] 65)) s w.heap.size op0 50) := (HL0.out.on hf1).alloc _; have c1 := HL1.out.env.c1; have f1 := HL1.out.env.fz 1; have hne1 : ¬ g = w1.heap.size := by { have := HL0.out.hi; have := hf1.size; simp at this; omega }; have hne2 : ¬ w1.heap.size = g := by { omega }; clear hf1; have HLP : Hid (Loc w g V L ((w1.alloc (.cells #[.int .i64 k, .string tx, .int .i64 m] 65)).setCell ⟨g, 1, none⟩ (.int .i64 ((s.i : Int) + 1))) s.adv w.heap.size op0 50) := HL1.out.step HI.out)
      | (refine wp_st (by rfl) 50 _ _ (by rfl) w.heap.size 0 op0 50 (opV ⟨1, 2, 0, tx, txt [], txt []⟩) (opC ⟨1, 2, 0, tx, txt [], txt []⟩) (by rfl) (by rfl) (by rfl) HLP.out.blk (Nat.le_of_ble_eq_true rfl) (by kernel_rfl) (by rfl) ?_; intro w9 hw9 hf9; have HL9 : Hid (Loc w g V L w9 s.adv w.heap.size (opC ⟨1, 2, 0, tx, txt [], txt []⟩) 50) := HLP.out.st hw9 hf9; clear hw9 hf9))
    refine ret_loc w.heap.size _ _ _ HL9.out.blk rfl rfl (by rfl) Tryd.underlying50 rfl (by kernel_rfl) ?_
    exact ⟨rfl, HL9.out.env, HL9.out.fr⟩
  have hb3 : (k == 3) = false := by simpa using h3
  rw [if_neg h3]
  clear h2 h3 hlt
  cases hb_HD : see L [45] s
  · simp only [Bool.false_eq_true, if_false]
    have HD : Hid (∀ W, Env W g V L s → Calls Tryd.prog 20 #[rp g, .int .i64 4, .string ⟨#[45]⟩] W fun e w' => e = .returned (.bool false) ∧ Env w' g V L s ∧ Fr (fun i => i = g) W w') := fun W hW => by
      have := is_any W g V L s 4 [45] (.inr ⟨rfl, by decide⟩) hW
      unfold tks at this
      rw [hb_HD] at this
      exact this
    obtain ⟨a, h_a⟩ : ∃ a, (nam L s).1 = a := ⟨_, rfl⟩
    obtain ⟨s1, h_s1⟩ : ∃ s1, (nam L s).2 = s1 := ⟨_, rfl⟩
    have HA : Hid (∀ W, Env W g V L s → Calls Tryd.prog 21 #[rp g] W fun e w' => e = .returned (.string a) ∧ Env w' g V L s1 ∧ Fr (fun i => i = g) W w') := fun W hW => by
      have := ident_any W g V L s hW
      rw [h_a, h_s1] at this
      exact this
    rw [h_a, h_s1]
    cases hb_HE : see L [46] s1
    · simp only [Bool.false_eq_true, if_false]
      have HE : Hid (∀ W, Env W g V L s1 → Calls Tryd.prog 20 #[rp g, .int .i64 4, .string ⟨#[46]⟩] W fun e w' => e = .returned (.bool false) ∧ Env w' g V L s1 ∧ Fr (fun i => i = g) W w') := fun W hW => by
        have := is_any W g V L s1 4 [46] (.inr ⟨rfl, by decide⟩) hW
        unfold tks at this
        rw [hb_HE] at this
        exact this
      clear h h_a h_s1 hb_HD hb_HE hbd hp hl
      go_enter Tryd.func51, Tryd.ntmps51
      go_wp2_with (first
        | (go_at_call 47; refine (HN.out _ HL0.out.env).mono ?_; rintro e w1 ⟨rfl, hf1⟩; have HL1 : Hid (Loc w g V L (w1.alloc (.cells #[.int .i64 k, .string tx, .int .i64 m] 65)) s w.heap.size op0 50) := (HL0.out.on hf1).alloc _; clear hf1)
        | (go_at_call_of 20 (Value.string ⟨#[45]⟩); refine (HD.out _ HL1.out.env).mono ?_; rintro e w2 ⟨rfl, he_w2, hf_w2⟩; have HL2 : Hid (Loc w g V L w2 s w.heap.size op0 50) := (HL1.out.call he_w2 hf_w2); clear he_w2 hf_w2)
        | (go_at_call 21; refine (HA.out _ HL2.out.env).mono ?_; rintro e w3 ⟨rfl, he_w3, hf_w3⟩; have HL3 : Hid (Loc w g V L w3 s1 w.heap.size op0 50) := (HL2.out.call he_w3 hf_w3); clear he_w3 hf_w3)
        | (go_at_call_of 20 (Value.string ⟨#[46]⟩); refine (HE.out _ HL3.out.env).mono ?_; rintro e w4 ⟨rfl, he_w4, hf_w4⟩; have HL4 : Hid (Loc w g V L w4 s1 w.heap.size op0 50) := (HL3.out.call he_w4 hf_w4); clear he_w4 hf_w4)
        | (refine wp_st (by rfl) 50 _ _ (by rfl) w.heap.size 0 op0 50 (opV ⟨2, 0, 0, txt [], txt [], a⟩) (opC ⟨2, 0, 0, txt [], txt [], a⟩) (by rfl) (by rfl) (by rfl) HL4.out.blk (Nat.le_of_ble_eq_true rfl) (by kernel_rfl) (by rfl) ?_; intro w9 hw9 hf9; have HL9 : Hid (Loc w g V L w9 s1 w.heap.size (opC ⟨2, 0, 0, txt [], txt [], a⟩) 50) := HL4.out.st hw9 hf9; clear hw9 hf9))
      refine ret_loc w.heap.size _ _ _ HL9.out.blk rfl rfl (by rfl) Tryd.underlying50 rfl (by kernel_rfl) ?_
      exact ⟨rfl, HL9.out.env, HL9.out.fr⟩
    · simp only [if_true]
      have HE : Hid (∀ W, Env W g V L s1 → Calls Tryd.prog 20 #[rp g, .int .i64 4, .string ⟨#[46]⟩] W fun e w' => e = .returned (.bool true) ∧ Env w' g V L s1.adv ∧ Fr (fun i => i = g) W w') := fun W hW => by
        have := is_any W g V L s1 4 [46] (.inr ⟨rfl, by decide⟩) hW
        unfold tks at this
        rw [hb_HE] at this
        exact this
      obtain ⟨b, h_b⟩ : ∃ b, (nam L s1.adv).1 = b := ⟨_, rfl⟩
      obtain ⟨s2, h_s2⟩ : ∃ s2, (nam L s1.adv).2 = s2 := ⟨_, rfl⟩
      have HB : Hid (∀ W, Env W g V L s1.adv → Calls Tryd.prog 21 #[rp g] W fun e w' => e = .returned (.string b) ∧ Env w' g V L s2 ∧ Fr (fun i => i = g) W w') := fun W hW => by
        have := ident_any W g V L s1.adv hW
        rw [h_b, h_s2] at this
        exact this
      rw [h_b, h_s2]
      clear h h_a h_s1 h_b h_s2 hb_HD hb_HE hbd hp hl
      go_enter Tryd.func51, Tryd.ntmps51
      go_wp2_with (first
        | (go_at_call 47; refine (HN.out _ HL0.out.env).mono ?_; rintro e w1 ⟨rfl, hf1⟩; have HL1 : Hid (Loc w g V L (w1.alloc (.cells #[.int .i64 k, .string tx, .int .i64 m] 65)) s w.heap.size op0 50) := (HL0.out.on hf1).alloc _; clear hf1)
        | (go_at_call_of 20 (Value.string ⟨#[45]⟩); refine (HD.out _ HL1.out.env).mono ?_; rintro e w2 ⟨rfl, he_w2, hf_w2⟩; have HL2 : Hid (Loc w g V L w2 s w.heap.size op0 50) := (HL1.out.call he_w2 hf_w2); clear he_w2 hf_w2)
        | (go_at_call 21; refine (HB.out _ HL4.out.env).mono ?_; rintro e w5 ⟨rfl, he_w5, hf_w5⟩; have HL5 : Hid (Loc w g V L w5 s2 w.heap.size op0 50) := (HL4.out.call he_w5 hf_w5); clear he_w5 hf_w5)
        | (go_at_call 21; refine (HA.out _ HL2.out.env).mono ?_; rintro e w3 ⟨rfl, he_w3, hf_w3⟩; have HL3 : Hid (Loc w g V L w3 s1 w.heap.size op0 50) := (HL2.out.call he_w3 hf_w3); clear he_w3 hf_w3)
        | (go_at_call_of 20 (Value.string ⟨#[46]⟩); refine (HE.out _ HL3.out.env).mono ?_; rintro e w4 ⟨rfl, he_w4, hf_w4⟩; have HL4 : Hid (Loc w g V L w4 s1.adv w.heap.size op0 50) := (HL3.out.call he_w4 hf_w4); clear he_w4 hf_w4)
        | (refine wp_st (by rfl) 50 _ _ (by rfl) w.heap.size 0 op0 50 (opV ⟨3, 0, 0, txt [], a, b⟩) (opC ⟨3, 0, 0, txt [], a, b⟩) (by rfl) (by rfl) (by rfl) HL5.out.blk (Nat.le_of_ble_eq_true rfl) (by kernel_rfl) (by rfl) ?_; intro w9 hw9 hf9; have HL9 : Hid (Loc w g V L w9 s2 w.heap.size (opC ⟨3, 0, 0, txt [], a, b⟩) 50) := HL5.out.st hw9 hf9; clear hw9 hf9))
      refine ret_loc w.heap.size _ _ _ HL9.out.blk rfl rfl (by rfl) Tryd.underlying50 rfl (by kernel_rfl) ?_
      exact ⟨rfl, HL9.out.env, HL9.out.fr⟩
  · simp only [if_true]
    have HD : Hid (∀ W, Env W g V L s → Calls Tryd.prog 20 #[rp g, .int .i64 4, .string ⟨#[45]⟩] W fun e w' => e = .returned (.bool true) ∧ Env w' g V L s.adv ∧ Fr (fun i => i = g) W w') := fun W hW => by
      have := is_any W g V L s 4 [45] (.inr ⟨rfl, by decide⟩) hW
      unfold tks at this
      rw [hb_HD] at this
      exact this
    obtain ⟨a, h_a⟩ : ∃ a, (num L s.adv).1 = a := ⟨_, rfl⟩
    obtain ⟨s1, h_s1⟩ : ∃ s1, (num L s.adv).2 = s1 := ⟨_, rfl⟩
    have HA : Hid (∀ W, Env W g V L s.adv → Calls Tryd.prog 49 #[rp g] W fun e w' => e = .returned (.int .i64 a) ∧ Env w' g V L s1 ∧ Fr (fun i => i = g) W w') := fun W hW => by
      have := num_any W g V L s.adv hW
      rw [h_a, h_s1] at this
      exact this
    rw [h_a] at hbd
    rw [h_a, h_s1]
    obtain ⟨hbd1, hbd2⟩ := hbd
    clear h h_a h_s1 hb_HD hp hl
    go_enter Tryd.func51, Tryd.ntmps51
    go_wp2_with (first
      | (go_at_call 47; refine (HN.out _ HL0.out.env).mono ?_; rintro e w1 ⟨rfl, hf1⟩; have HL1 : Hid (Loc w g V L (w1.alloc (.cells #[.int .i64 k, .string tx, .int .i64 m] 65)) s w.heap.size op0 50) := (HL0.out.on hf1).alloc _; clear hf1)
      | (go_at_call_of 20 (Value.string ⟨#[45]⟩); refine (HD.out _ HL1.out.env).mono ?_; rintro e w2 ⟨rfl, he_w2, hf_w2⟩; have HL2 : Hid (Loc w g V L w2 s.adv w.heap.size op0 50) := (HL1.out.call he_w2 hf_w2); clear he_w2 hf_w2)
      | (go_at_call 49; refine (HA.out _ HL2.out.env).mono ?_; rintro e w3 ⟨rfl, he_w3, hf_w3⟩; have HL3 : Hid (Loc w g V L w3 s1 w.heap.size op0 50) := (HL2.out.call he_w3 hf_w3); clear he_w3 hf_w3)
      | (refine wp_st (by rfl) 50 _ _ (by rfl) w.heap.size 0 op0 50 (opV ⟨1, 1, -a, txt [], txt [], txt []⟩) (opC ⟨1, 1, -a, txt [], txt [], txt []⟩) (by rfl) (by rfl) (by rfl) HL3.out.blk (Nat.le_of_ble_eq_true rfl) (by kernel_rfl) (by rfl) ?_; intro w9 hw9 hf9; have HL9 : Hid (Loc w g V L w9 s1 w.heap.size (opC ⟨1, 1, -a, txt [], txt [], txt []⟩) 50) := HL3.out.st hw9 hf9; clear hw9 hf9))
    refine ret_loc w.heap.size _ _ _ HL9.out.blk rfl rfl (by rfl) Tryd.underlying50 rfl (by kernel_rfl) ?_
    exact ⟨rfl, HL9.out.env, HL9.out.fr⟩
end Go.Proofs.YtnlmkdncifijlaaDoor.Ref
