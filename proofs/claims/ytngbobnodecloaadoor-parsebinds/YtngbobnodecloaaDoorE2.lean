/-
  The smallest functions of a reader of tokens.
-/
import Derived.Test.YtngbobnodecloaaDoorE
namespace Go.Proofs.YtngbobnodecloaaDoor
open Go.ChangeShapes Go.WideShapes Go.ChangeAt Go.RowKit
set_option linter.unusedVariables false
set_option linter.unusedSimpArgs false
section
variable {w : World} {g : Nat} {V : Value} {L : List Tk} {s : St}
theorem Env.c0 (h : Env w g V L s) : w.cell? ⟨g, 0, none⟩ = some V := by rw [cell_of_blk h.blk]; rfl
theorem Env.c1 (h : Env w g V L s) : w.cell? ⟨g, 1, none⟩ = some (.int .i64 s.i) := by rw [cell_of_blk h.blk]; rfl
theorem Env.c2 (h : Env w g V L s) : w.cell? ⟨g, 2, none⟩ = some (.int .i64 s.o) := by rw [cell_of_blk h.blk]; rfl
theorem Env.c3 (h : Env w g V L s) : w.cell? ⟨g, 3, none⟩ = some (.int .i64 s.e) := by rw [cell_of_blk h.blk]; rfl
theorem Env.fz (h : Env w g V L s) (j : Nat) : w.frozen? ⟨g, j, none⟩ = false := free_of_blk h.blk j
theorem Env.shape (h : Env w g V L s) : ∃ p cap, V = .slice p L.length cap := by
  obtain ⟨p, cap, h1, _⟩ := h.tok
  exact ⟨p, cap, h1⟩
end
theorem fr_put (w : World) (g j : Nat) (u : Value) : Fr (fun i => i = g) w (w.setCell ⟨g, j, none⟩ u) := (Fr.refl (fun i => i = g) w).setCell (p := ⟨g, j, none⟩) (.inl rfl) u
theorem res1 {P : Program} {fn : Func} {p : Tmp} {ty : TypeId} (h : fn.results = #[.cell p ty]) (tmps : Array Value) (w : World) (g : Nat) (cs : List Value) (d : TypeDesc)
    (hp : tmps.getD p undef = .pointer (some ⟨g, 0, none⟩)) (hc : w.rangeAt g 0 cs) (hu : P.underlying ty = some d) (hd : d.isRow = true) (hi : (P.info? ty).map (·.size) = some cs.length) :
    (results fn tmps).run P w = .ok (.agg cs.toArray) w := by
  have hp' : tmps[p]?.getD undef = .pointer (some ⟨g, 0, none⟩) := by simpa using hp
  simp [results, h, hp', asAddr, run_loadVar_mid w g 0 ty cs d hc hu hd hi]
theorem range_blk {w : World} {g : Nat} {cs : List Value} {T : TypeId} (h : w.heap[g]? = some (.cells cs.toArray T (0, 0))) : w.rangeAt g 0 cs := by
  intro j v hv
  rw [Nat.zero_add, cell_of_blk h]
  simpa using hv
abbrev rp (g : Nat) : Value := .pointer (some ⟨g, 0, none⟩)
set_option maxHeartbeats 1000000 in
theorem refuse_any (w : World) (g : Nat) (V : Value) (L : List Tk) (s : St) (x : Int) (h : Env w g V L s) :
    Calls Tryd.prog 71 #[rp g, .int .i64 x] w fun e w' => e = .returned (.tuple #[]) ∧ Env w' g V L (if s.e = 0 then ⟨s.i, s.o, x⟩ else s) ∧ Fr (fun i => i = g) w w' := by
  have HE : Hid (Env w g V L s) := h
  have c3 := h.c3
  have f3 := h.fz 3
  by_cases he : s.e = 0
  · have hb : (s.e == 0) = true := by simpa using he
    rw [if_pos he]
    clear he h
    go_enter Tryd.func71, Tryd.ntmps71
    go_wp2
    go_end0
    have h := HE.out
    exact ⟨rfl, h.put (fr_put _ _ _ _) (by rw [blk_set h.blk]; rfl) h.pos h.opn, fr_put _ _ _ _⟩
  · have hb : (s.e == 0) = false := by simpa using he
    rw [if_neg he]
    clear he h
    go_enter Tryd.func71, Tryd.ntmps71
    go_wp2
    go_end0
    exact ⟨rfl, HE.out, Fr.refl _ _⟩
set_option maxHeartbeats 1000000 in
theorem fail_any (w : World) (g : Nat) (V : Value) (L : List Tk) (s : St) (h : Env w g V L s) :
    Calls Tryd.prog 42 #[rp g] w fun e w' => e = .returned (.tuple #[]) ∧ Env w' g V L (fal L s) ∧ Fr (fun i => i = g) w w' := by
  obtain ⟨p, cap, rfl⟩ := h.shape
  have HE : Hid (Env w g (.slice p L.length cap) L s) := h
  have c0 := h.c0
  have c1 := h.c1
  have HC : Hid (∀ (n : Nat) (x : Int), Calls Tryd.prog 71 #[rp g, .int .i64 x] (w.drewN n) fun e w' => e = .returned (.tuple #[]) ∧ Env w' g (.slice p L.length cap) L (if s.e = 0 then ⟨s.i, s.o, x⟩ else s) ∧ Fr (fun i => i = g) (w.drewN n) w') := fun n x => refuse_any _ g _ L s x (h.drewN n)
  obtain ⟨S, hS⟩ : ∃ S, fal L s = S := ⟨_, rfl⟩
  rw [hS]
  by_cases he : s.i = L.length
  · have hb : ((s.i : Int) == (L.length : Int)) = true := by simp; omega
    have HC5 : Hid (∀ n : Nat, Calls Tryd.prog 71 #[rp g, .int .i64 5] (w.drewN n) fun e w' => e = .returned (.tuple #[]) ∧ Env w' g (.slice p L.length cap) L S ∧ Fr (fun i => i = g) (w.drewN n) w') := fun n => by
      have := HC.out n 5
      have e : (if s.e = 0 then (⟨s.i, s.o, 5⟩ : St) else s) = S := by rw [← hS, fal, if_pos he]
      rw [e] at this
      exact this
    obtain ⟨n, hn⟩ : ∃ n, L.length = n := ⟨_, rfl⟩
    have HN : Hid (L.length = n) := hn
    rw [hn] at c0 hb HC5 HE
    clear HC he hS h hn
    go_enter Tryd.func42, Tryd.ntmps42
    go_wp2_with fail
    go_quiet (fail)
    go_wp2_with (go_at_call 71; refine (HC5.out _).mono ?_; rintro e w1 ⟨rfl, he1, hf1⟩)
    refine bodyPost_ret (results_none rfl _ _ _) rfl ?_
    rw [HN.out]
    exact ⟨rfl, he1, ((Fr.refl _ w).drewN _).trans hf1⟩
  · have hb : ((s.i : Int) == (L.length : Int)) = false := by simp; omega
    have HC5 : Hid (∀ n : Nat, Calls Tryd.prog 71 #[rp g, .int .i64 4] (w.drewN n) fun e w' => e = .returned (.tuple #[]) ∧ Env w' g (.slice p L.length cap) L S ∧ Fr (fun i => i = g) (w.drewN n) w') := fun n => by
      have := HC.out n 4
      have e : (if s.e = 0 then (⟨s.i, s.o, 4⟩ : St) else s) = S := by rw [← hS, fal, if_neg he]
      rw [e] at this
      exact this
    obtain ⟨n, hn⟩ : ∃ n, L.length = n := ⟨_, rfl⟩
    have HN : Hid (L.length = n) := hn
    rw [hn] at c0 hb HC5 HE
    clear HC he hS h hn
    go_enter Tryd.func42, Tryd.ntmps42
    go_wp2_with fail
    go_quiet (fail)
    go_wp2_with (go_at_call 71; refine (HC5.out _).mono ?_; rintro e w1 ⟨rfl, he1, hf1⟩)
    go_end0
    rw [HN.out]
    exact ⟨rfl, he1, ((Fr.refl _ w).drewN _).trans hf1⟩
end Go.Proofs.YtngbobnodecloaaDoor
