/-
  A side of a comparison.
-/
import Derived.Test.YtnlmkdncifijlaaDoorE
namespace Go.Proofs.YtnlmkdncifijlaaDoor
open Go.ChangeShapes Go.WideShapes Go.ChangeAt Go.RowKit
set_option linter.unusedVariables false
set_option linter.unusedSimpArgs false
/-- Behind a call's beginning: a reader, and a block of the call's own. -/
structure Loc (w0 : World) (g : Nat) (V : Value) (L : List Tk) (w : World) (s : St) (R : Nat) (cs : List Value) (T : TypeId) : Prop where
  env : Env w g V L s
  fr : Fr (fun i => i = g) w0 w
  lo : w0.heap.size ≤ R
  hi : g < w0.heap.size
  blk : w.heap[R]? = some (.cells cs.toArray T (0, 0))
section
variable {w0 w w' : World} {g R : Nat} {V : Value} {L : List Tk} {s s' : St} {cs : List Value} {T : TypeId}
theorem Loc.start (h : Env w0 g V L s) (cs : List Value) (T : TypeId) : Loc w0 g V L (w0.alloc (.cells cs.toArray T)) s w0.heap.size cs T :=
  ⟨h.alloc _, (Fr.refl _ _).alloc _, Nat.le_refl _, blk_lt h.blk, heap_alloc_new _ _⟩
theorem Loc.call (h : Loc w0 g V L w s R cs T) (he : Env w' g V L s') (hf : Fr (fun i => i = g) w w') : Loc w0 g V L w' s' R cs T :=
  ⟨he, h.fr.trans hf, h.lo, h.hi, (hf.block R (blk_lt h.blk) (by show ¬ R = g; have := h.lo; have := h.hi; omega)).trans h.blk⟩
theorem Loc.on (h : Loc w0 g V L w s R cs T) (hf : Fr (fun _ => False) w w') : Loc w0 g V L w' s R cs T :=
  h.call (h.env.fr hf) (hf.mono fun _ h _ => h.elim)
theorem Loc.alloc (h : Loc w0 g V L w s R cs T) (o : Obj) : Loc w0 g V L (w.alloc o) s R cs T := h.on ((Fr.refl _ _).alloc o)
theorem Loc.drewN (h : Loc w0 g V L w s R cs T) (n : Nat) : Loc w0 g V L (w.drewN n) s R cs T := h.on ((Fr.refl _ _).drewN n)
theorem Loc.step (h : Loc w0 g V L w s R cs T) (hi : s.i < L.length) : Loc w0 g V L (w.setCell ⟨g, 1, none⟩ (.int .i64 ((s.i : Int) + 1))) s.adv R cs T :=
  h.call (h.env.step hi) (fr_put _ _ _ _)
/-- A store into the call's own block. -/
theorem Loc.st {vs : List Value} {o : Nat} (h : Loc w0 g V L w s R cs T) (hb : w'.heap[R]? = some (.cells (ovr cs o vs).toArray T (0, 0))) (hf : Fr (fun i => i = R) w w') : Loc w0 g V L w' s R (ovr cs o vs) T := by
  have hlo := h.lo
  have hhi := h.hi
  have hg := blk_lt h.env.blk
  refine ⟨h.env.on hf.size (fun k hk => hf.block k (by omega) (by show ¬ k = R; omega)) ((hf.block g hg (by show ¬ g = R; omega)).trans h.env.blk) h.env.pos h.env.opn, h.fr.stored hf (.inr hlo), hlo, hhi, hb⟩
end
abbrev opC (o : Opd) : List Value := [.int .i64 o.k, .int .i64 o.vk, .int .i64 o.vi, .string o.vt, .string o.va, .string o.fd]
abbrev opV (o : Opd) : Value := .agg #[.int .i64 o.k, .int .i64 o.vk, .int .i64 o.vi, .string o.vt, .string o.va, .string o.fd]
theorem heap_2 (w : World) (a b : Obj) : ((w.alloc a).alloc b).heap[w.heap.size + 1]? = some b := by
  have := heap_alloc_new (w.alloc a) b
  simpa using this
set_option maxHeartbeats 1000000 in
theorem constant_any (w : World) (k n : Int) (t : ByteArray) :
    Calls Tryd.prog 149 #[.agg #[.int .i64 k, .int .i64 n, .string t]] w fun e w' => e = .returned (opV ⟨1, k, n, t, txt [], txt []⟩) ∧ Fr (fun _ => False) w w' := by
  go_enter Tryd.func149, Tryd.ntmps149
  go_wp2
  refine bodyPost_ret (res1 rfl _ _ (w.heap.size + 1) (opC ⟨1, k, n, t, txt [], txt []⟩) _ (by rfl) (range_blk (heap_2 _ _ _)) Tryd.underlying50 rfl (by kernel_rfl)) rfl ?_
  exact ⟨rfl, ((Fr.refl _ w).alloc _).alloc _⟩
/-- The end of a call whose result is a struct in the call's own block. -/
theorem ret_loc {P : Program} {fn : Func} {p : Tmp} {ty : TypeId} {a : Act} {w : World} {Q : Ending → World → Prop} (R : Nat) (cs : List Value) (T : TypeId) (d : TypeDesc) (hb : w.heap[R]? = some (.cells cs.toArray T (0, 0))) (h : fn.results = #[.cell p ty]) (hd : a.defers = [])
    (hp : a.tmps.getD p undef = .pointer (some ⟨R, 0, none⟩)) (hu : P.underlying ty = some d) (hr : d.isRow = true) (hi : (P.info? ty).map (·.size) = some cs.length) (hq : Q (.returned (.agg cs.toArray)) w) : bodyPost P fn Q .ret a w :=
  bodyPost_ret (res1 h a.tmps w R cs d hp (range_blk hb) hu hr hi) hd hq
def op0 : List Value := [.int .i64 0, .int .i64 0, .int .i64 0, .string ⟨#[]⟩, .string ⟨#[]⟩, .string ⟨#[]⟩]
set_option maxHeartbeats 4000000 in
theorem side_any (w : World) (g : Nat) (V : Value) (L : List Tk) (s : St) (h : Env w g V L s) :
    Calls Tryd.prog 140 #[rp g] w fun e w' => e = .returned (opV (sde L s).1) ∧ Env w' g V L (sde L s).2 ∧ Fr (fun i => i = g) w w' := by
  have hp := h.pos
  have hl := h.len
  have HL0 : Hid (Loc w g V L (w.alloc (.cells #[.int .i64 0, .int .i64 0, .int .i64 0, .string ⟨#[]⟩, .string ⟨#[]⟩, .string ⟨#[]⟩] 50)) s w.heap.size op0 50) := Loc.start h op0 _
  have hsz : (nxt L s).k ≠ 0 → (nxt L s).s.size ≤ 3000 := fun h0 => h.siz _ (nxt_mem h0)
  have HN : Hid (∀ W, Env W g V L s → Calls Tryd.prog 117 #[rp g] W fun e w' => e = .returned (tV (nxt L s)) ∧ Fr (fun _ => False) W w') := fun W hW => next_any W g V L s hW
  have HNU : Hid (∀ W, Env W g V L s → Calls Tryd.prog 137 #[rp g] W fun e w' => e = .returned (.int .i64 (num L s).1) ∧ Env w' g V L (num L s).2 ∧ Fr (fun i => i = g) W w') := fun W hW => number_any W g V L s hW
  unfold sde
  obtain ⟨t, ht⟩ : ∃ t, nxt L s = t := ⟨_, rfl⟩
  have hlt : t.k ≠ 0 → s.e = 0 ∧ s.i < L.length := fun h0 => nxt_lt (by rw [ht]; exact h0)
  have hnum : t.k = 2 → num L s = (t.n, s.adv) := fun hk => by unfold num; rw [ht, if_pos hk]
  rw [ht] at HN hsz ⊢
  obtain ⟨k, tx, m⟩ := t
  have HN2 : Hid (∀ W, Env W g V L s → Calls Tryd.prog 117 #[rp g] W fun e w' => e = .returned (.agg #[.int .i64 k, .string tx, .int .i64 m]) ∧ Fr (fun _ => False) W w') := HN
  clear HN ht
  by_cases h2 : k = 2
  · have hb : (k == 2) = true := by simpa using h2
    rw [if_pos h2]
    rw [hnum h2] at HNU
    have HNU2 : Hid (∀ W, Env W g V L s → Calls Tryd.prog 137 #[rp g] W fun e w' => e = .returned (.int .i64 m) ∧ Env w' g V L s.adv ∧ Fr (fun i => i = g) W w') := HNU
    clear h2 hlt hnum hsz HNU h
    go_enter Tryd.func140, Tryd.ntmps140
    go_wp2_with (first
      | (go_at_call 117; refine (HN2.out _ HL0.out.env).mono ?_; rintro e w1 ⟨rfl, hf1⟩; have HL1 : Hid (Loc w g V L (w1.alloc (.cells #[.int .i64 k, .string tx, .int .i64 m] 65)) s w.heap.size op0 50) := (HL0.out.on hf1).alloc _)
      | (go_at_call 137; refine (HNU2.out _ HL1.out.env).mono ?_; rintro e w2 ⟨rfl, he2, hf2⟩; have HL2 : Hid (Loc w g V L w2 s.adv w.heap.size op0 50) := HL1.out.call he2 hf2)
      | (go_at_call 149; refine (constant_any _ _ _ _).mono ?_; rintro e w3 ⟨rfl, hf3⟩; have HL3 : Hid (Loc w g V L w3 s.adv w.heap.size op0 50) := HL2.out.on hf3)
      | (refine wp_st (by rfl) 50 _ _ (by rfl) w.heap.size 0 op0 50 (opV ⟨1, 1, m, txt [], txt [], txt []⟩) (opC ⟨1, 1, m, txt [], txt [], txt []⟩) (by rfl) (by rfl) (by rfl) HL3.out.blk (Nat.le_of_ble_eq_true rfl) (by kernel_rfl) (by rfl) ?_; intro w9 hw9 hf9; have HL9 : Hid (Loc w g V L w9 s.adv w.heap.size (opC ⟨1, 1, m, txt [], txt [], txt []⟩) 50) := HL3.out.st hw9 hf9; clear hw9 hf9))
    refine ret_loc w.heap.size _ _ _ HL9.out.blk rfl rfl (by rfl) Tryd.underlying50 rfl (by kernel_rfl) ?_
    exact ⟨rfl, HL9.out.env, HL9.out.fr⟩
  · have hb2 : (k == 2) = false := by simpa using h2
    rw [if_neg h2]
    by_cases h3 : k = 3
    · have hb3 : (k == 3) = true := by simpa using h3
      rw [if_pos h3]
      have hi : s.i < L.length := (hlt (by show k ≠ 0; omega)).2
      have hz : tx.size ≤ 3000 := hsz (by show k ≠ 0; omega)
      have HI : Hid (s.i < L.length) := hi
      have HC : Hid (∀ W, Calls Tryd.prog 118 #[.string tx] W fun e w' => e = .returned (.string tx) ∧ Fr (fun _ => False) W w') := fun W => (clone_any tx W (by omega)).mono fun e w' h => ⟨h.1, Fr.of_below h.2⟩
      have hq : (s.i : Int) ≤ 700 := by omega
      clear h2 h3 hlt hnum hsz HNU h hi hz
      go_enter Tryd.func140, Tryd.ntmps140
      go_wp2_with (first
      | (go_at_call 117; refine (HN2.out _ HL0.out.env).mono ?_; rintro e w1 ⟨rfl, hf_w1⟩; have HL1 : Hid (Loc w g V L (w1.alloc (.cells #[.int .i64 k, .string tx, .int .i64 m] 65)) s w.heap.size op0 50) := (HL0.out.on hf_w1).alloc _; have c1 := HL1.out.env.c1; have f1 := HL1.out.env.fz 1; have hne1 : ¬ g = w1.heap.size := by { have := HL0.out.hi; have := hf_w1.size; simp at this; omega }; have hne2 : ¬ w1.heap.size = g := by { omega })
      | (go_at_call 118; refine (HC.out _).mono ?_; rintro e w3 ⟨rfl, hf3⟩; have HL3 : Hid (Loc w g V L w3 s.adv w.heap.size op0 50) := (HL1.out.step HI.out).on hf3)
      | (go_at_call 149; refine (constant_any _ _ _ _).mono ?_; rintro e w4 ⟨rfl, hf_w4⟩; have HL4 : Hid (Loc w g V L w4 s.adv w.heap.size op0 50) := (HL3.out.on hf_w4))
      | (refine wp_st (by rfl) 50 _ _ (by rfl) w.heap.size 0 op0 50 (opV ⟨1, 2, 0, tx, txt [], txt []⟩) (opC ⟨1, 2, 0, tx, txt [], txt []⟩) (by rfl) (by rfl) (by rfl) HL4.out.blk (Nat.le_of_ble_eq_true rfl) (by kernel_rfl) (by rfl) ?_; intro w9 hw_w9 hf_w9; have HL9 : Hid (Loc w g V L w9 s.adv w.heap.size (opC ⟨1, 2, 0, tx, txt [], txt []⟩) 50) := HL4.out.st hw_w9 hf_w9; clear hw_w9 hf_w9))
      refine ret_loc w.heap.size _ _ _ HL9.out.blk rfl rfl (by rfl) Tryd.underlying50 rfl (by kernel_rfl) ?_
      exact ⟨rfl, HL9.out.env, HL9.out.fr⟩
    · have hb3 : (k == 3) = false := by simpa using h3
      rw [if_neg h3]
      have HTK : Hid (∀ W, Env W g V L s → Calls Tryd.prog 40 #[rp g, .string ⟨#[45]⟩] W fun e w' => e = .returned (.bool (see L [45] s)) ∧ Env w' g V L (tks L [45] s) ∧ Fr (fun i => i = g) W w') := fun W hW => takes_any W g V L s [45] hW
      unfold tks at HTK
      clear h2 h3 hlt hnum hsz HNU
      cases hm : see L [45] s
      · rw [hm] at HTK
        simp only [Bool.false_eq_true, if_false] at HTK ⊢
        clear hm
        obtain ⟨a, ha⟩ : ∃ a, (nam L s).1 = a := ⟨_, rfl⟩
        obtain ⟨s1, hs1⟩ : ∃ s1, (nam L s).2 = s1 := ⟨_, rfl⟩
        have HID : Hid (∀ W, Env W g V L s → Calls Tryd.prog 81 #[rp g] W fun e w' => e = .returned (.string a) ∧ Env w' g V L s1 ∧ Fr (fun i => i = g) W w') := fun W hW => by
          have := ident_any W g V L s hW
          rw [ha, hs1] at this
          exact this
        rw [ha, hs1]
        have HDT : Hid (∀ W, Env W g V L s1 → Calls Tryd.prog 40 #[rp g, .string ⟨#[46]⟩] W fun e w' => e = .returned (.bool (see L [46] s1)) ∧ Env w' g V L (tks L [46] s1) ∧ Fr (fun i => i = g) W w') := fun W hW => takes_any W g V L s1 [46] hW
        unfold tks at HDT
        clear ha hs1
        cases hd : see L [46] s1
        · rw [hd] at HDT
          simp only [Bool.false_eq_true, if_false] at HDT ⊢
          clear hd h
          go_enter Tryd.func140, Tryd.ntmps140
          go_wp2_with (first
      | (go_at_call 117; refine (HN2.out _ HL0.out.env).mono ?_; rintro e w1 ⟨rfl, hf_w1⟩; have HL1 : Hid (Loc w g V L (w1.alloc (.cells #[.int .i64 k, .string tx, .int .i64 m] 65)) s w.heap.size op0 50) := (HL0.out.on hf_w1).alloc _)
      | (go_at_call_of 40 (Value.string ⟨#[45]⟩); refine (HTK.out _ HL1.out.env).mono ?_; rintro e w2 ⟨rfl, he_w2, hf_w2⟩; have HL2 : Hid (Loc w g V L w2 s w.heap.size op0 50) := (HL1.out.call he_w2 hf_w2); clear he_w2 hf_w2)
      | (go_at_call 81; refine (HID.out _ HL2.out.env).mono ?_; rintro e w3 ⟨rfl, he_w3, hf_w3⟩; have HL3 : Hid (Loc w g V L w3 s1 w.heap.size op0 50) := (HL2.out.call he_w3 hf_w3); clear he_w3 hf_w3)
      | (go_at_call_of 40 (Value.string ⟨#[46]⟩); refine (HDT.out _ HL3.out.env).mono ?_; rintro e w4 ⟨rfl, he_w4, hf_w4⟩; have HL4 : Hid (Loc w g V L w4 s1 w.heap.size op0 50) := (HL3.out.call he_w4 hf_w4); clear he_w4 hf_w4)
      | (refine wp_st (by rfl) 50 _ _ (by rfl) w.heap.size 0 op0 50 (opV ⟨2, 0, 0, txt [], txt [], a⟩) (opC ⟨2, 0, 0, txt [], txt [], a⟩) (by rfl) (by rfl) (by rfl) HL4.out.blk (Nat.le_of_ble_eq_true rfl) (by kernel_rfl) (by rfl) ?_; intro w9 hw_w9 hf_w9; have HL9 : Hid (Loc w g V L w9 s1 w.heap.size (opC ⟨2, 0, 0, txt [], txt [], a⟩) 50) := HL4.out.st hw_w9 hf_w9; clear hw_w9 hf_w9))
          refine ret_loc w.heap.size _ _ _ HL9.out.blk rfl rfl (by rfl) Tryd.underlying50 rfl (by kernel_rfl) ?_
          exact ⟨rfl, HL9.out.env, HL9.out.fr⟩
        · rw [hd] at HDT
          simp only [if_true] at HDT ⊢
          obtain ⟨b, hbb⟩ : ∃ b, (nam L s1.adv).1 = b := ⟨_, rfl⟩
          obtain ⟨s2, hs2⟩ : ∃ s2, (nam L s1.adv).2 = s2 := ⟨_, rfl⟩
          have HID2 : Hid (∀ W, Env W g V L s1.adv → Calls Tryd.prog 81 #[rp g] W fun e w' => e = .returned (.string b) ∧ Env w' g V L s2 ∧ Fr (fun i => i = g) W w') := fun W hW => by
            have := ident_any W g V L s1.adv hW
            rw [hbb, hs2] at this
            exact this
          rw [hbb, hs2]
          clear hd h hbb hs2
          go_enter Tryd.func140, Tryd.ntmps140
          go_wp2_with (first
      | (go_at_call 117; refine (HN2.out _ HL0.out.env).mono ?_; rintro e w1 ⟨rfl, hf_w1⟩; have HL1 : Hid (Loc w g V L (w1.alloc (.cells #[.int .i64 k, .string tx, .int .i64 m] 65)) s w.heap.size op0 50) := (HL0.out.on hf_w1).alloc _)
      | (go_at_call_of 40 (Value.string ⟨#[45]⟩); refine (HTK.out _ HL1.out.env).mono ?_; rintro e w2 ⟨rfl, he_w2, hf_w2⟩; have HL2 : Hid (Loc w g V L w2 s w.heap.size op0 50) := (HL1.out.call he_w2 hf_w2); clear he_w2 hf_w2)
      | (go_at_call 81; refine (HID2.out _ HL4.out.env).mono ?_; rintro e w5 ⟨rfl, he_w5, hf_w5⟩; have HL5 : Hid (Loc w g V L w5 s2 w.heap.size op0 50) := (HL4.out.call he_w5 hf_w5); clear he_w5 hf_w5)
      | (go_at_call 81; refine (HID.out _ HL2.out.env).mono ?_; rintro e w3 ⟨rfl, he_w3, hf_w3⟩; have HL3 : Hid (Loc w g V L w3 s1 w.heap.size op0 50) := (HL2.out.call he_w3 hf_w3); clear he_w3 hf_w3)
      | (go_at_call_of 40 (Value.string ⟨#[46]⟩); refine (HDT.out _ HL3.out.env).mono ?_; rintro e w4 ⟨rfl, he_w4, hf_w4⟩; have HL4 : Hid (Loc w g V L w4 s1.adv w.heap.size op0 50) := (HL3.out.call he_w4 hf_w4); clear he_w4 hf_w4)
      | (refine wp_st (by rfl) 50 _ _ (by rfl) w.heap.size 0 op0 50 (opV ⟨3, 0, 0, txt [], a, b⟩) (opC ⟨3, 0, 0, txt [], a, b⟩) (by rfl) (by rfl) (by rfl) HL5.out.blk (Nat.le_of_ble_eq_true rfl) (by kernel_rfl) (by rfl) ?_; intro w9 hw_w9 hf_w9; have HL9 : Hid (Loc w g V L w9 s2 w.heap.size (opC ⟨3, 0, 0, txt [], a, b⟩) 50) := HL5.out.st hw_w9 hf_w9; clear hw_w9 hf_w9))
          refine ret_loc w.heap.size _ _ _ HL9.out.blk rfl rfl (by rfl) Tryd.underlying50 rfl (by kernel_rfl) ?_
          exact ⟨rfl, HL9.out.env, HL9.out.fr⟩
      · rw [hm] at HTK
        simp only [if_true] at HTK ⊢
        have hbd : -1125899906842624 ≤ (num L s.adv).1 ∧ (num L s.adv).1 ≤ 1125899906842624 := by
          unfold num
          split
          · rename_i hk
            have := h.num _ (nxt_mem (by rw [hk]; decide)) hk
            show -1125899906842624 ≤ (nxt L s.adv).n ∧ (nxt L s.adv).n ≤ 1125899906842624
            omega
          · exact ⟨show (-1125899906842624 : Int) ≤ 0 by decide, show (0 : Int) ≤ 1125899906842624 by decide⟩
        obtain ⟨a, ha⟩ : ∃ a, (num L s.adv).1 = a := ⟨_, rfl⟩
        obtain ⟨s1, hs1⟩ : ∃ s1, (num L s.adv).2 = s1 := ⟨_, rfl⟩
        have HID : Hid (∀ W, Env W g V L s.adv → Calls Tryd.prog 137 #[rp g] W fun e w' => e = .returned (.int .i64 a) ∧ Env w' g V L s1 ∧ Fr (fun i => i = g) W w') := fun W hW => by
          have := number_any W g V L s.adv hW
          rw [ha, hs1] at this
          exact this
        rw [ha] at hbd
        rw [ha, hs1]
        obtain ⟨hbd1, hbd2⟩ := hbd
        clear hm h ha hs1
        go_enter Tryd.func140, Tryd.ntmps140
        go_wp2_with (first
      | (go_at_call 117; refine (HN2.out _ HL0.out.env).mono ?_; rintro e w1 ⟨rfl, hf_w1⟩; have HL1 : Hid (Loc w g V L (w1.alloc (.cells #[.int .i64 k, .string tx, .int .i64 m] 65)) s w.heap.size op0 50) := (HL0.out.on hf_w1).alloc _)
      | (go_at_call 40; refine (HTK.out _ HL1.out.env).mono ?_; rintro e w2 ⟨rfl, he_w2, hf_w2⟩; have HL2 : Hid (Loc w g V L w2 s.adv w.heap.size op0 50) := (HL1.out.call he_w2 hf_w2); clear he_w2 hf_w2)
      | (go_at_call 137; refine (HID.out _ HL2.out.env).mono ?_; rintro e w3 ⟨rfl, he_w3, hf_w3⟩; have HL3 : Hid (Loc w g V L w3 s1 w.heap.size op0 50) := (HL2.out.call he_w3 hf_w3); clear he_w3 hf_w3)
      | (go_at_call 149; refine (constant_any _ _ _ _).mono ?_; rintro e w4 ⟨rfl, hf_w4⟩; have HL4 : Hid (Loc w g V L w4 s1 w.heap.size op0 50) := (HL3.out.on hf_w4))
      | (refine wp_st (by rfl) 50 _ _ (by rfl) w.heap.size 0 op0 50 (opV ⟨1, 1, -a, txt [], txt [], txt []⟩) (opC ⟨1, 1, -a, txt [], txt [], txt []⟩) (by rfl) (by rfl) (by rfl) HL4.out.blk (Nat.le_of_ble_eq_true rfl) (by kernel_rfl) (by rfl) ?_; intro w9 hw_w9 hf_w9; have HL9 : Hid (Loc w g V L w9 s1 w.heap.size (opC ⟨1, 1, -a, txt [], txt [], txt []⟩) 50) := HL4.out.st hw_w9 hf_w9; clear hw_w9 hf_w9))
        refine ret_loc w.heap.size _ _ _ HL9.out.blk rfl rfl (by rfl) Tryd.underlying50 rfl (by kernel_rfl) ?_
        exact ⟨rfl, HL9.out.env, HL9.out.fr⟩
end Go.Proofs.YtnlmkdncifijlaaDoor
