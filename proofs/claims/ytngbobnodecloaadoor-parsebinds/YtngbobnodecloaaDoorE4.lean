/-
  A reader goes past a word or a mark, a name, a number.
-/
import Derived.Test.YtngbobnodecloaaDoorE3
namespace Go.Proofs.YtngbobnodecloaaDoor
open Go.ChangeShapes Go.WideShapes Go.ChangeAt Go.RowKit
set_option linter.unusedVariables false
set_option linter.unusedSimpArgs false
theorem nxt_lt {L : List Tk} {s : St} (h : (nxt L s).k ≠ 0) : s.e = 0 ∧ s.i < L.length := by
  unfold nxt at h
  by_cases he : s.e = 0
  · rw [if_pos he] at h
    refine ⟨he, ?_⟩
    rcases Nat.lt_or_ge s.i L.length with c | c
    · exact c
    · exact absurd (by simp [List.getD, List.getElem?_eq_none c, no]) h
  · rw [if_neg he] at h
    exact absurd rfl h
theorem nxt_mem {L : List Tk} {s : St} (h : (nxt L s).k ≠ 0) : nxt L s ∈ L := by
  obtain ⟨he, hi⟩ := nxt_lt h
  have : nxt L s = L[s.i] := by unfold nxt; rw [if_pos he]; simp [List.getD, List.getElem?_eq_getElem hi]
  rw [this]
  exact List.getElem_mem hi
theorem see_lt {L : List Tk} {x : List UInt8} {s : St} (h : see L x s = true) : s.e = 0 ∧ s.i < L.length := by
  refine nxt_lt fun h0 => ?_
  unfold see at h
  rw [h0] at h
  simp at h
section
variable {w : World} {g : Nat} {V : Value} {L : List Tk} {s : St}
/-- One token on. -/
theorem Env.step (h : Env w g V L s) (hi : s.i < L.length) : Env (w.setCell ⟨g, 1, none⟩ (.int .i64 ((s.i : Int) + 1))) g V L s.adv :=
  h.put (fr_put _ _ _ _) (by rw [blk_set h.blk]; rfl) (by show s.i + 1 ≤ _; omega) h.opn
end
def tks (L : List Tk) (x : List UInt8) (s : St) : St := if see L x s = true then s.adv else s
set_option maxHeartbeats 2000000 in
theorem takes_any (w : World) (g : Nat) (V : Value) (L : List Tk) (s : St) (x : List UInt8) (h : Env w g V L s) :
    Calls Tryd.prog 39 #[rp g, .string (txt x)] w fun e w' => e = .returned (.bool (see L x s)) ∧ Env w' g V L (tks L x s) ∧ Fr (fun i => i = g) w w' := by
  have HN := sees_any w g V L s x h
  have HE : Hid (Env w g V L s) := h
  have hp := h.pos
  have hl := h.len
  unfold tks
  cases hb : see L x s
  · rw [hb] at HN
    rw [if_neg (by decide)]
    have HN2 : Hid (Calls Tryd.prog 65 #[rp g, .string (txt x)] w fun e w' => e = .returned (.bool false) ∧ Fr (fun _ => False) w w') := HN
    clear HN h hb
    generalize txt x = y at HN2 ⊢
    go_enter Tryd.func39, Tryd.ntmps39
    go_wp2_with (go_at_call 65; refine HN2.out.mono ?_; rintro e w1 ⟨rfl, hf1⟩)
    go_ret
    exact ⟨rfl, HE.out.fr hf1, hf1.mono (fun _ h _ => h.elim)⟩
  · have hi := (see_lt hb).2
    rw [hb] at HN
    rw [if_pos rfl]
    have HN2 : Hid (Calls Tryd.prog 65 #[rp g, .string (txt x)] w fun e w' => e = .returned (.bool true) ∧ Fr (fun _ => False) w w') := HN
    have HI : Hid (s.i < L.length) := hi
    have hq : (s.i : Int) ≤ 700 := by omega
    clear HN h hb hp hl hi
    generalize txt x = y at HN2 ⊢
    go_enter Tryd.func39, Tryd.ntmps39
    go_wp2_with (go_at_call 65; refine HN2.out.mono ?_; rintro e w1 ⟨rfl, hf1⟩; have hE := HE.out.fr hf1; have c1 := hE.c1; have f1 := hE.fz 1; have HE1 : Hid (Env w1 g V L s) := hE; clear hE)
    go_ret
    exact ⟨rfl, HE1.out.step HI.out, (hf1.mono (fun _ h _ => h.elim)).trans (fr_put _ _ _ _)⟩
set_option maxHeartbeats 2000000 in
theorem wants_any (w : World) (g : Nat) (V : Value) (L : List Tk) (s : St) (x : List UInt8) (h : Env w g V L s) :
    Calls Tryd.prog 67 #[rp g, .string (txt x)] w fun e w' => e = .returned (.tuple #[]) ∧ Env w' g V L (wnt L x s) ∧ Fr (fun i => i = g) w w' := by
  have HN := takes_any w g V L s x h
  unfold tks at HN
  unfold wnt
  cases hb : see L x s
  · rw [hb] at HN
    rw [if_neg (by decide)] at HN ⊢
    have HN2 : Hid (Calls Tryd.prog 39 #[rp g, .string (txt x)] w fun e w' => e = .returned (.bool false) ∧ Env w' g V L s ∧ Fr (fun i => i = g) w w') := HN
    clear HN h hb
    generalize txt x = y at HN2 ⊢
    go_enter Tryd.func67, Tryd.ntmps67
    go_wp2_with (first
      | (go_at_call 39; refine HN2.out.mono ?_; rintro e w1 ⟨rfl, he1, hf1⟩)
      | (go_at_call 42; refine (fail_any w1 g V L s he1).mono ?_; rintro e w2 ⟨rfl, he2, hf2⟩))
    go_end0
    exact ⟨rfl, he2, hf1.trans hf2⟩
  · rw [hb] at HN
    rw [if_pos rfl] at HN ⊢
    have HN2 : Hid (Calls Tryd.prog 39 #[rp g, .string (txt x)] w fun e w' => e = .returned (.bool true) ∧ Env w' g V L s.adv ∧ Fr (fun i => i = g) w w') := HN
    clear HN h hb
    generalize txt x = y at HN2 ⊢
    go_enter Tryd.func67, Tryd.ntmps67
    go_wp2_with (go_at_call 39; refine HN2.out.mono ?_; rintro e w1 ⟨rfl, he1, hf1⟩)
    go_end0
    exact ⟨rfl, he1, hf1⟩
end Go.Proofs.YtngbobnodecloaaDoor
