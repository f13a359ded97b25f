/-
  A reader opens and closes what a condition is nested by; it reads a name, a number, a relation.
-/
import Derived.Test.YtngbobnodecloaaDoorE4
import Derived.Defers
namespace Go.Proofs.YtngbobnodecloaaDoor
open Go.ChangeShapes Go.WideShapes Go.ChangeAt Go.RowKit
set_option linter.unusedVariables false
set_option linter.unusedSimpArgs false
theorem see_bad {L : List Tk} {x : List UInt8} {s : St} (h : s.e ≠ 0) : see L x s = false := by
  cases hb : see L x s
  · rfl
  · exact absurd (see_lt hb).1 h
set_option maxHeartbeats 4000000 in
theorem opens_any (w : World) (g : Nat) (V : Value) (L : List Tk) (s : St) (x : List UInt8) (h : Env w g V L s) :
    Calls Tryd.prog 99 #[rp g, .string (txt x)] w fun e w' => e = .returned (.bool (opn L x s).1) ∧ Env w' g V L (opn L x s).2 ∧ Fr (fun i => i = g) w w' := by
  have HN := sees_any w g V L s x h
  have HE : Hid (Env w g V L s) := h
  have hop := h.opn
  have HT : Hid (∀ W s', Env W g V L s' → Calls Tryd.prog 39 #[rp g, .string (txt x)] W fun e w' => e = .returned (.bool (see L x s')) ∧ Env w' g V L (tks L x s') ∧ Fr (fun i => i = g) W w') := fun W s' h => takes_any W g V L s' x h
  unfold opn
  cases hb : see L x s
  · rw [hb] at HN
    simp only [Bool.false_eq_true, if_false]
    have HN2 : Hid (Calls Tryd.prog 65 #[rp g, .string (txt x)] w fun e w' => e = .returned (.bool false) ∧ Fr (fun _ => False) w w') := HN
    have HT2 : Hid (∀ W, Env W g V L s → Calls Tryd.prog 39 #[rp g, .string (txt x)] W fun e w' => e = .returned (.bool false) ∧ Env w' g V L s ∧ Fr (fun i => i = g) W w') := fun W hW => by
      have := HT.out W s hW
      unfold tks at this
      rw [hb, if_neg (by decide)] at this
      exact this
    clear HN h hb HT
    generalize txt x = y at HN2 HT2 ⊢
    go_enter Tryd.func99, Tryd.ntmps99
    go_wp2_with (first
      | (go_at_call 65; refine HN2.out.mono ?_; rintro e w1 ⟨rfl, hf1⟩)
      | (go_at_call 39; refine (HT2.out _ (HE.out.fr hf1)).mono ?_; rintro e w2 ⟨rfl, he2, hf2⟩))
    go_ret
    exact ⟨rfl, he2, (hf1.mono (fun _ h _ => h.elim)).trans hf2⟩
  · have hlt := see_lt hb
    rw [hb] at HN
    simp only [if_true]
    have HN2 : Hid (Calls Tryd.prog 65 #[rp g, .string (txt x)] w fun e w' => e = .returned (.bool true) ∧ Fr (fun _ => False) w w') := HN
    by_cases ho : s.o = 7
    · simp only [ho, if_true]
      have hb7 : ((s.o : Int) == 7) = true := by simp; omega
      have HR : Hid (∀ W, Env W g V L s → Calls Tryd.prog 71 #[rp g, .int .i64 14] W fun e w' => e = .returned (.tuple #[]) ∧ Env w' g V L ⟨s.i, s.o, 14⟩ ∧ Fr (fun i => i = g) W w') := fun W hW => by
        have := refuse_any W g V L s 14 hW
        rw [if_pos hlt.1] at this
        exact this
      have HT2 : Hid (∀ W, Env W g V L ⟨s.i, s.o, 14⟩ → Calls Tryd.prog 39 #[rp g, .string (txt x)] W fun e w' => e = .returned (.bool false) ∧ Env w' g V L ⟨s.i, s.o, 14⟩ ∧ Fr (fun i => i = g) W w') := fun W hW => by
        have := HT.out W ⟨s.i, s.o, 14⟩ hW
        unfold tks at this
        rw [see_bad (show (14 : Int) ≠ 0 by decide), if_neg (by decide)] at this
        exact this
      have HO : Hid (s.o = 7) := ho
      clear HN h hb HT ho hlt
      generalize txt x = y at HN2 HT2 ⊢
      go_enter Tryd.func99, Tryd.ntmps99
      go_wp2_with (first
        | (go_at_call 65; refine HN2.out.mono ?_; rintro e w1 ⟨rfl, hf1⟩; have c2 := (HE.out.fr hf1).c2)
        | (go_at_call 71; refine (HR.out _ (HE.out.fr hf1)).mono ?_; rintro e w3 ⟨rfl, he3, hf3⟩)
        | (go_at_call 39; refine (HT2.out _ he3).mono ?_; rintro e w2 ⟨rfl, he2, hf2⟩))
      go_ret
      have ho := HO.out
      rw [ho] at he2
      exact ⟨rfl, he2, ((hf1.mono (fun _ h _ => h.elim)).trans hf3).trans hf2⟩
    · simp only [ho, if_false]
      have hb7 : ((s.o : Int) == 7) = false := by simp; omega
      have ho7 : (s.o : Int) ≤ 7 := by omega
      have HT2 : Hid (∀ W, Env W g V L s → Calls Tryd.prog 39 #[rp g, .string (txt x)] W fun e w' => e = .returned (.bool true) ∧ Env w' g V L s.adv ∧ Fr (fun i => i = g) W w') := fun W hW => by
        have := HT.out W s hW
        unfold tks at this
        rw [hb, if_pos rfl] at this
        exact this
      have HO : Hid (s.o < 7) := by show s.o < 7; omega
      clear HN h hb HT ho hlt
      generalize txt x = y at HN2 HT2 ⊢
      go_enter Tryd.func99, Tryd.ntmps99
      go_wp2_with (first
        | (go_at_call 65; refine HN2.out.mono ?_; rintro e w1 ⟨rfl, hf1⟩; have c2 := (HE.out.fr hf1).c2)
        | (go_at_call 39; refine (HT2.out _ (HE.out.fr hf1)).mono ?_; rintro e w2 ⟨rfl, he2, hf2⟩; have c2' : w2.cell? ⟨g, 2, none⟩ = some (.int .i64 s.o) := he2.c2; have f2' := he2.fz 2))
      go_ret
      refine ⟨rfl, he2.put (fr_put _ _ _ _) (by rw [blk_set he2.blk]; rfl) he2.pos (by have := HO.out; show s.o + 1 ≤ 7; omega), ((hf1.mono (fun _ h _ => h.elim)).trans hf2).trans (fr_put _ _ _ _)⟩
set_option maxHeartbeats 1000000 in
theorem closes_d (w : World) (g : Nat) (V : Value) (L : List Tk) (s : St) (u : FrameMode) (h : Env w g V L s) (h1 : 0 < s.o) :
    CallsD Tryd.prog 100 #[rp g] u w fun e u' w' => u' = u ∧ e = .returned (.tuple #[]) ∧ Env w' g V L (cls s) ∧ Fr (fun i => i = g) w w' := by
  have HE : Hid (Env w g V L s) := h
  have c2 := h.c2
  have f2 := h.fz 2
  have ho : (s.o : Int) ≤ 7 := by have := h.opn; omega
  have ho1 : (0 : Int) < (s.o : Int) := by omega
  have H1 : Hid (0 < s.o) := h1
  clear h h1
  go_enter_d Tryd.func100, Tryd.ntmps100
  go_wp2_with fail
  go_end0
  have h := HE.out
  refine ⟨rfl, h.put (fr_put _ _ _ _) ?_ h.pos (by have := h.opn; show s.o - 1 ≤ 7; omega), fr_put _ _ _ _⟩
  rw [blk_set h.blk, show ((cls s).o : Int) = (s.o : Int) - 1 from by have := H1.out; show ((s.o - 1 : Nat) : Int) = _; omega]
  rfl
set_option maxHeartbeats 2000000 in
theorem number_any (w : World) (g : Nat) (V : Value) (L : List Tk) (s : St) (h : Env w g V L s) :
    Calls Tryd.prog 89 #[rp g] w fun e w' => e = .returned (.int .i64 (num L s).1) ∧ Env w' g V L (num L s).2 ∧ Fr (fun i => i = g) w w' := by
  have HN := next_any w g V L s h
  have HE : Hid (Env w g V L s) := h
  have hp := h.pos
  have hl := h.len
  unfold num
  obtain ⟨t, ht⟩ : ∃ t, nxt L s = t := ⟨_, rfl⟩
  have hlt : t.k ≠ 0 → s.e = 0 ∧ s.i < L.length := fun h0 => nxt_lt (by rw [ht]; exact h0)
  rw [ht] at HN ⊢
  obtain ⟨k, tx, m⟩ := t
  have HN2 : Hid (Calls Tryd.prog 79 #[rp g] w fun e w' => e = .returned (.agg #[.int .i64 k, .string tx, .int .i64 m]) ∧ Fr (fun _ => False) w w') := HN
  clear HN ht h
  by_cases hk : k = 2
  · have hb : (k != 2) = false := by simpa using hk
    rw [if_pos hk]
    have hi : s.i < L.length := (hlt (by show k ≠ 0; omega)).2
    have HI : Hid (s.i < L.length) := hi
    have hq : (s.i : Int) ≤ 700 := by omega
    clear hk hlt hi hp hl
    go_enter Tryd.func89, Tryd.ntmps89
    go_wp2_with (go_at_call 79; refine HN2.out.mono ?_; rintro e w1 ⟨rfl, hf1⟩; have hE : ∀ o, Env (w1.alloc o) g V L s := fun o => (HE.out.fr hf1).alloc o; have c1 : ∀ o, (w1.alloc o).cell? ⟨g, 1, none⟩ = some (.int .i64 s.i) := fun o => (hE o).c1; have f1 : ∀ o, (w1.alloc o).frozen? ⟨g, 1, none⟩ = false := fun o => (hE o).fz 1; have HE1 : Hid (∀ o, Env (w1.alloc o) g V L s) := hE; clear hE)
    go_ret
    exact ⟨rfl, (HE1.out _).step HI.out, ((hf1.mono (fun _ h _ => h.elim)).alloc _).trans (fr_put _ _ _ _)⟩
  · have hb : (k != 2) = true := by simpa using hk
    rw [if_neg hk]
    clear hk hlt hp hl
    go_enter Tryd.func89, Tryd.ntmps89
    go_wp2_with (first
      | (go_at_call 79; refine HN2.out.mono ?_; rintro e w1 ⟨rfl, hf1⟩; have HE1 : Hid (∀ o, Env (w1.alloc o) g V L s) := fun o => (HE.out.fr hf1).alloc o)
      | (go_at_call 42; refine (fail_any _ g V L s (HE1.out _)).mono ?_; rintro e w2 ⟨rfl, he2, hf2⟩))
    go_ret
    exact ⟨rfl, he2, ((hf1.mono (fun _ h _ => h.elim)).alloc _).trans hf2⟩
set_option maxHeartbeats 2000000 in
theorem relation_any (w : World) (g : Nat) (V : Value) (L : List Tk) (s : St) (h : Env w g V L s) :
    Calls Tryd.prog 97 #[rp g] w fun e w' => e = .returned (.int .i64 (rel L s).1) ∧ Env w' g V L (rel L s).2 ∧ Fr (fun i => i = g) w w' := by
  have HN := next_any w g V L s h
  have HE : Hid (Env w g V L s) := h
  have hp := h.pos
  have hl := h.len
  unfold rel
  obtain ⟨t, ht⟩ : ∃ t, nxt L s = t := ⟨_, rfl⟩
  have hlt : t.k ≠ 0 → s.e = 0 ∧ s.i < L.length := fun h0 => nxt_lt (by rw [ht]; exact h0)
  rw [ht] at HN ⊢
  obtain ⟨k, tx, m⟩ := t
  obtain ⟨r, hr⟩ : ∃ r, rln tx = r := ⟨_, rfl⟩
  have HN2 : Hid (Calls Tryd.prog 79 #[rp g] w fun e w' => e = .returned (.agg #[.int .i64 k, .string tx, .int .i64 m]) ∧ Fr (fun _ => False) w w') := HN
  have HR : Hid (∀ W, Env W g V L s → Calls Tryd.prog 19 #[.string tx] W fun e w' => e = .returned (.int .i64 (r : Int)) ∧ w' = W) := fun W hW => by
    have := relno_any tx W hW.rl
    rw [hr] at this
    exact this
  show Calls _ _ _ _ fun e w' => e = .returned (.int .i64 (if k = 1 ∧ rln tx ≠ 0 then ((rln tx : Int), s.adv) else (0, fal L s)).1) ∧ Env w' g V L (if k = 1 ∧ rln tx ≠ 0 then ((rln tx : Int), s.adv) else (0, fal L s)).2 ∧ _
  rw [hr]
  clear HN ht h hr
  by_cases hk : k = 1 ∧ r ≠ 0
  · have hb : (k != 1) = false := by simp [hk.1]
    have hb2 : ((r : Int) == 0) = false := by simp; exact hk.2
    rw [if_pos hk]
    have hi : s.i < L.length := (hlt (by show k ≠ 0; omega)).2
    have HI : Hid (s.i < L.length) := hi
    have hq : (s.i : Int) ≤ 700 := by omega
    clear hk hlt hi hp hl
    go_enter Tryd.func97, Tryd.ntmps97
    go_wp2_with (first
      | (go_at_call 79; refine HN2.out.mono ?_; rintro e w1 ⟨rfl, hf1⟩; have hE : ∀ o, Env (w1.alloc o) g V L s := fun o => (HE.out.fr hf1).alloc o; have c1 : ∀ o, (w1.alloc o).cell? ⟨g, 1, none⟩ = some (.int .i64 s.i) := fun o => (hE o).c1; have f1 : ∀ o, (w1.alloc o).frozen? ⟨g, 1, none⟩ = false := fun o => (hE o).fz 1; have HE1 : Hid (∀ o, Env (w1.alloc o) g V L s) := hE; clear hE)
      | (go_at_call 19; refine (HR.out _ (HE1.out _)).mono ?_; rintro e w2 ⟨rfl, rfl⟩))
    go_ret
    exact ⟨rfl, (HE1.out _).step HI.out, ((hf1.mono (fun _ h _ => h.elim)).alloc _).trans (fr_put _ _ _ _)⟩
  · rw [if_neg hk]
    have hcase : k ≠ 1 ∨ r = 0 := by
      by_cases c : k = 1
      · right; rcases Nat.eq_zero_or_pos r with d | d
        · exact d
        · exact absurd ⟨c, by omega⟩ hk
      · exact .inl c
    clear hk hlt hp hl
    rcases hcase with c | c
    · have hb : (k != 1) = true := by simpa using c
      clear c
      go_enter Tryd.func97, Tryd.ntmps97
      go_wp2_with (first
        | (go_at_call 79; refine HN2.out.mono ?_; rintro e w1 ⟨rfl, hf1⟩; have HE1 : Hid (∀ o, Env (w1.alloc o) g V L s) := fun o => (HE.out.fr hf1).alloc o)
        | (go_at_call 19; refine (HR.out _ (HE1.out _)).mono ?_; rintro e w2 ⟨rfl, rfl⟩)
        | (go_at_call 42; refine (fail_any _ g V L s (HE1.out _)).mono ?_; rintro e w2 ⟨rfl, he2, hf2⟩))
      go_ret
      exact ⟨rfl, he2, ((hf1.mono (fun _ h _ => h.elim)).alloc _).trans hf2⟩
    · subst c
      obtain ⟨b, hb⟩ : ∃ b, (k != 1) = b := ⟨_, rfl⟩
      go_enter Tryd.func97, Tryd.ntmps97
      cases b
      all_goals
        go_wp2_with (first
          | (go_at_call 79; refine HN2.out.mono ?_; rintro e w1 ⟨rfl, hf1⟩; have HE1 : Hid (∀ o, Env (w1.alloc o) g V L s) := fun o => (HE.out.fr hf1).alloc o)
          | (go_at_call 19; refine (HR.out _ (HE1.out _)).mono ?_; rintro e w2 ⟨rfl, rfl⟩)
          | (go_at_call 42; refine (fail_any _ g V L s (HE1.out _)).mono ?_; rintro e w2 ⟨rfl, he2, hf2⟩))
        go_ret
        exact ⟨rfl, he2, ((hf1.mono (fun _ h _ => h.elim)).alloc _).trans hf2⟩
set_option maxHeartbeats 2000000 in
theorem ident_any (w : World) (g : Nat) (V : Value) (L : List Tk) (s : St) (h : Env w g V L s) :
    Calls Tryd.prog 66 #[rp g] w fun e w' => e = .returned (.string (nam L s).1) ∧ Env w' g V L (nam L s).2 ∧ Fr (fun i => i = g) w w' := by
  have HN := next_any w g V L s h
  have HE : Hid (Env w g V L s) := h
  have hp := h.pos
  have hl := h.len
  have hsz : (nxt L s).k ≠ 0 → (nxt L s).s.size ≤ 3000 := fun h0 => h.siz _ (nxt_mem h0)
  unfold nam
  obtain ⟨t, ht⟩ : ∃ t, nxt L s = t := ⟨_, rfl⟩
  have hlt : t.k ≠ 0 → s.e = 0 ∧ s.i < L.length := fun h0 => nxt_lt (by rw [ht]; exact h0)
  rw [ht] at HN hsz ⊢
  obtain ⟨k, tx, m⟩ := t
  obtain ⟨r, hr⟩ : ∃ r, kpt tx = r := ⟨_, rfl⟩
  have HN2 : Hid (Calls Tryd.prog 79 #[rp g] w fun e w' => e = .returned (.agg #[.int .i64 k, .string tx, .int .i64 m]) ∧ Fr (fun _ => False) w w') := HN
  have HR : Hid (∀ W, Env W g V L s → Calls Tryd.prog 9 #[.string tx] W fun e w' => e = .returned (.bool r) ∧ w' = W) := fun W hW => by
    have := kept_any tx W hW.kp hW.rl
    rw [hr] at this
    exact this
  show Calls _ _ _ _ fun e w' => e = .returned (.string (if k = 1 ∧ kpt tx = false then (tx, s.adv) else (txt [], fal L s)).1) ∧ Env w' g V L (if k = 1 ∧ kpt tx = false then (tx, s.adv) else (txt [], fal L s)).2 ∧ _
  rw [hr]
  clear HN ht h hr
  by_cases hk : k = 1 ∧ r = false
  · have hb : (k != 1) = false := by simp [hk.1]
    rw [if_pos hk]
    obtain ⟨hk1, rfl⟩ := hk
    have hi : s.i < L.length := (hlt (by show k ≠ 0; omega)).2
    have hz : tx.size ≤ 3000 := hsz (by show k ≠ 0; omega)
    have HI : Hid (s.i < L.length) := hi
    have HC : Hid (∀ W, Calls Tryd.prog 75 #[.string tx] W fun e w' => e = .returned (.string tx) ∧ Below W.heap.size W w') := fun W => clone_any tx W (by omega)
    have hq : (s.i : Int) ≤ 700 := by omega
    clear hk1 hlt hi hp hl hsz hz
    go_enter Tryd.func66, Tryd.ntmps66
    go_wp2_with (first
      | (go_at_call 79; refine HN2.out.mono ?_; rintro e w1 ⟨rfl, hf1⟩; have hE : ∀ o, Env (w1.alloc o) g V L s := fun o => (HE.out.fr hf1).alloc o; have c1 : ∀ o, (w1.alloc o).cell? ⟨g, 1, none⟩ = some (.int .i64 s.i) := fun o => (hE o).c1; have f1 : ∀ o, (w1.alloc o).frozen? ⟨g, 1, none⟩ = false := fun o => (hE o).fz 1; have HE1 : Hid (∀ o, Env (w1.alloc o) g V L s) := hE; have hne1 : ¬ g = w1.heap.size := by { have := blk_lt (HE.out.fr hf1).blk; omega }; have hne2 : ¬ w1.heap.size = g := by { omega }; clear hE)
      | (go_at_call 9; refine (HR.out _ (HE1.out _)).mono ?_; rintro e w2 ⟨rfl, rfl⟩)
      | (go_at_call 75; refine (HC.out _).mono ?_; rintro e w3 ⟨rfl, hb3⟩))
    go_ret
    have hf3 : Fr (fun _ => False) _ w3 := Fr.of_below hb3
    exact ⟨rfl, ((HE1.out _).step HI.out).fr hf3, (((hf1.mono (fun _ h _ => h.elim)).alloc _).trans (fr_put _ _ _ _)).trans (hf3.mono (fun _ h _ => h.elim))⟩
  · rw [if_neg hk]
    have hcase : k ≠ 1 ∨ r = true := by
      by_cases c : k = 1
      · right
        cases r
        · exact absurd ⟨c, rfl⟩ hk
        · rfl
      · exact .inl c
    clear hk hlt hp hl hsz
    obtain ⟨b, hb⟩ : ∃ b, (k != 1) = b := ⟨_, rfl⟩
    have HB : Hid (b = true ∨ r = true) := by
      show b = true ∨ r = true
      rcases hcase with c | c
      · left; rw [← hb]; simpa using c
      · exact .inr c
    clear hcase
    cases b
    · obtain rfl : r = true := by rcases HB.out with c | c <;> first | (cases c; done) | exact c
      go_enter Tryd.func66, Tryd.ntmps66
      go_wp2_with (first
        | (go_at_call 79; refine HN2.out.mono ?_; rintro e w1 ⟨rfl, hf1⟩; have HE1 : Hid (∀ o, Env (w1.alloc o) g V L s) := fun o => (HE.out.fr hf1).alloc o)
        | (go_at_call 9; refine (HR.out _ (HE1.out _)).mono ?_; rintro e w2 ⟨rfl, rfl⟩)
        | (go_at_call 42; refine (fail_any _ g V L s (HE1.out _)).mono ?_; rintro e w2 ⟨rfl, he2, hf2⟩))
      go_ret
      exact ⟨rfl, he2, ((hf1.mono (fun _ h _ => h.elim)).alloc _).trans hf2⟩
    · go_enter Tryd.func66, Tryd.ntmps66
      go_wp2_with (first
        | (go_at_call 79; refine HN2.out.mono ?_; rintro e w1 ⟨rfl, hf1⟩; have HE1 : Hid (∀ o, Env (w1.alloc o) g V L s) := fun o => (HE.out.fr hf1).alloc o)
        | (go_at_call 42; refine (fail_any _ g V L s (HE1.out _)).mono ?_; rintro e w2 ⟨rfl, he2, hf2⟩))
      go_ret
      exact ⟨rfl, he2, ((hf1.mono (fun _ h _ => h.elim)).alloc _).trans hf2⟩
end Go.Proofs.YtngbobnodecloaaDoor
