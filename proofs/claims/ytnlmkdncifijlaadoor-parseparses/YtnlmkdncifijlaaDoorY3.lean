/-
  The reference reads a comparison.
-/
import Derived.Test.YtnlmkdncifijlaaDoorY2
import Derived.Test.YtnlmkdncifijlaaDoorG
namespace Go.Proofs.YtnlmkdncifijlaaDoor.Ref
open Go.ChangeShapes Go.WideShapes Go.ChangeAt Go.RowKit Go.Maps
set_option linter.unusedVariables false
set_option linter.unusedSimpArgs false
set_option maxRecDepth 20000
/-- What a part of a condition leaves. -/
def CPost (w : World) (g : Nat) (V : Value) (L : List Tk) (c : Cn) (s : St) (e : Ending) (w' : World) : Prop :=
  ∃ p cap, e = .returned (cnV c.k (.slice p c.sb.length cap) c.l c.r) ∧ Holds w' (fun i => w.heap.size ≤ i) (.row 52 14 c.sb) (.slice p c.sb.length cap) ∧ Env w' g V L s ∧ Fr (fun i => i = g) w w'
theorem cpost_bare {w w' : World} {g : Nat} {V : Value} {L : List Tk} {c : Cn} {s : St} (hs : c.sb = []) (he : Env w' g V L s) (hf : Fr (fun i => i = g) w w') : CPost w g V L c s (.returned (cnV c.k (.slice none 0 0) c.l c.r)) w' := by
  refine ⟨none, 0, ?_, ?_, he, hf⟩
  · rw [hs]; rfl
  · rw [hs]; exact (Row.nil w' _ _ _).holds
theorem Lo2.step {w0 w : World} {g R M : Nat} {V : Value} {L : List Tk} {s : St} {cs ds : List Value} {T U : TypeId} (h : Lo2 w0 g V L w s R cs T M ds U) (hi : s.i < L.length) : Lo2 w0 g V L (w.setCell ⟨g, 1, none⟩ (.int .i64 ((s.i : Int) + 1))) s.adv R cs T M ds U :=
  h.call (h.env.step hi) (fr_put _ _ _ _)
theorem str_eq (t : ByteArray) (x : List UInt8) : (t.toList == (⟨x.toArray⟩ : ByteArray).toList) = decide (t.data.toList = x) := by
  have := sees_eq ⟨0, t, 0⟩ x
  exact this
/-- The mark of a comparison is a mark. -/
theorem see_mark {L : List Tk} {s : St} (hL : ∀ t, t ∈ L → tchk t = 0) {x : List UInt8} (hx : x ∈ mkl) : see L x s = (decide ((nxt L s).k = 4) && decide ((nxt L s).s.data.toList = x)) := (is_see hL (.inr ⟨rfl, hx⟩)).symm
set_option maxHeartbeats 4000000 in
theorem test_0 (w : World) (g : Nat) (V : Value) (L : List Tk) (s s1 s2 : St) (lk lvk lvi : Int) (lvt lva lfd : ByteArray) (rk rvk rvi : Int) (rvt rva rfd : ByteArray) (k m : Int) (tx : ByteArray) (h : Env w g V L s) (hl : sde L s = (⟨lk, lvk, lvi, lvt, lva, lfd⟩, s1)) (ht : nxt L s1 = ⟨k, tx, m⟩) (hk : k = 4) (htx : tx.data.toList = [61]) (hr : sde L s1.adv = (⟨rk, rvk, rvi, rvt, rva, rfd⟩, s2)) :
    Calls Tryd.prog 124 #[rp g] w (CPost w g V L ⟨4, [], ⟨lk, lvk, lvi, lvt, lva, lfd⟩, ⟨rk, rvk, rvi, rvt, rva, rfd⟩⟩ s2) := by
  have HL0 : Hid (Loc w g V L (w.alloc (.cells cm0.toArray 52)) s w.heap.size cm0 52) := Loc.start h cm0 _
  have hfin := h.fin
  have hpos := h.len
  have hgw := blk_lt h.blk
  have HI : Hid (s1.i < L.length) := (nxt_lt (by rw [ht]; show k ≠ 0; omega)).2
  have hq : (s1.i : Int) ≤ 700 := by have := HI.out; omega
  have HS : Hid (∀ W, Env W g V L s → Calls Tryd.prog 51 #[rp g] W fun e w' => e = .returned (opV ⟨lk, lvk, lvi, lvt, lva, lfd⟩) ∧ Env w' g V L s1 ∧ Fr (fun i => i = g) W w') := fun W hW => by
    have := side_any W g V L s hW
    rw [hl] at this
    exact this
  have HN : Hid (∀ W, Env W g V L s1 → Calls Tryd.prog 47 #[rp g] W fun e w' => e = .returned (.agg #[.int .i64 k, .string tx, .int .i64 m]) ∧ Fr (fun _ => False) W w') := fun W hW => by
    have := next_any W g V L s1 hW
    rw [ht] at this
    exact this
  have HS2 : Hid (∀ W, Env W g V L s1.adv → Calls Tryd.prog 51 #[rp g] W fun e w' => e = .returned (opV ⟨rk, rvk, rvi, rvt, rva, rfd⟩) ∧ Env w' g V L s2 ∧ Fr (fun i => i = g) W w') := fun W hW => by
    have := side_any W g V L s1.adv hW
    rw [hr] at this
    exact this
  have hb4 : (k == 4) = true := by simpa using hk
  have q0 : tx.toList = [61] := by rw [Lib.toList_data, htx]
  clear hfin hpos hk htx hl ht hr h
  go_enter Tryd.func124, Tryd.ntmps124
  go_wp2_with (first
      | (refine wp_st (by rfl) 52 _ _ (by rfl) w.heap.size 0 cm0 52 (cnV 4 (.slice none 0 0) ⟨lk, lvk, lvi, lvt, lva, lfd⟩ ⟨rk, rvk, rvi, rvt, rva, rfd⟩) (cnC 4 (.slice none 0 0) ⟨lk, lvk, lvi, lvt, lva, lfd⟩ ⟨rk, rvk, rvi, rvt, rva, rfd⟩) (by rfl) (by rfl) (by rfl) HL4.out.blk (Nat.le_of_ble_eq_true rfl) (by kernel_rfl) (by rfl) ?_; intro w9 hw9 hf9; have HL9 : Hid (Lo2 w g V L w9 s2 w.heap.size (cnC 4 (.slice none 0 0) ⟨lk, lvk, lvi, lvt, lva, lfd⟩ ⟨rk, rvk, rvi, rvt, rva, rfd⟩) 52 w1.heap.size (opC ⟨lk, lvk, lvi, lvt, lva, lfd⟩) 50) := HL4.out.st hw9 hf9; clear hw9 hf9)
      | (go_at_call 51; refine (HS2.out _ HL3.out.env).mono ?_; rintro e w4 ⟨rfl, he4, hf4⟩; have HL4 : Hid (Lo2 w g V L (w4.alloc (.cells #[.int .i64 rk, .int .i64 rvk, .int .i64 rvi, .string rvt, .string rva, .string rfd] 50)) s2 w.heap.size cm0 52 w1.heap.size (opC ⟨lk, lvk, lvi, lvt, lva, lfd⟩) 50) := (HL3.out.call he4 hf4).alloc _; clear he4 hf4)
      | (go_at_call 47; refine (HN.out _ HL1.out.env).mono ?_; rintro e w2 ⟨rfl, hf2⟩; have HL2 : Hid (Lo2 w g V L (w2.alloc (.cells #[.int .i64 k, .string tx, .int .i64 m] 65)) s1 w.heap.size cm0 52 w1.heap.size (opC ⟨lk, lvk, lvi, lvt, lva, lfd⟩) 50) := (HL1.out.on hf2).alloc _; have c1 := HL2.out.env.c1; have f1 := HL2.out.env.fz 1; have hne1 : ¬ g = w2.heap.size := by { have h1 := blk_lt (HL1.out.on hf2).env.blk; omega }; have hne2 : ¬ w2.heap.size = g := by { omega }; have HL3 : Hid (Lo2 w g V L ((w2.alloc (.cells #[.int .i64 k, .string tx, .int .i64 m] 65)).setCell ⟨g, 1, none⟩ (.int .i64 ((s1.i : Int) + 1))) s1.adv w.heap.size cm0 52 w1.heap.size (opC ⟨lk, lvk, lvi, lvt, lva, lfd⟩) 50) := HL2.out.step HI.out; clear hf2)
      | (go_at_call 51; refine (HS.out _ HL0.out.env).mono ?_; rintro e w1 ⟨rfl, he1, hf1⟩; have HL1 : Hid (Lo2 w g V L (w1.alloc (.cells #[.int .i64 lk, .int .i64 lvk, .int .i64 lvi, .string lvt, .string lva, .string lfd] 50)) s1 w.heap.size cm0 52 w1.heap.size (opC ⟨lk, lvk, lvi, lvt, lva, lfd⟩) 50) := (HL0.out.call he1 hf1).two (opC ⟨lk, lvk, lvi, lvt, lva, lfd⟩) 50; clear he1 hf1)
      | (refine wp_ld (by rfl) 50 _ (by rfl) w1.heap.size (opC ⟨lk, lvk, lvi, lvt, lva, lfd⟩) 50 _ (by rfl) HL4.out.blk2 Tryd.underlying50 rfl (by kernel_rfl) ?_)
      | (refine wp_ld (by rfl) 50 _ (by rfl) w4.heap.size (opC ⟨rk, rvk, rvi, rvt, rva, rfd⟩) 50 _ (by rfl) (heap_alloc_new _ _) Tryd.underlying50 rfl (by kernel_rfl) ?_))
  refine ret_loc w.heap.size _ _ _ HL9.out.blk rfl rfl (by rfl) Tryd.underlying52 rfl (by kernel_rfl) ?_
  exact cpost_bare (c := ⟨4, [], ⟨lk, lvk, lvi, lvt, lva, lfd⟩, ⟨rk, rvk, rvi, rvt, rva, rfd⟩⟩) rfl HL9.out.env HL9.out.fr
set_option maxHeartbeats 4000000 in
theorem test_1 (w : World) (g : Nat) (V : Value) (L : List Tk) (s s1 s2 : St) (lk lvk lvi : Int) (lvt lva lfd : ByteArray) (rk rvk rvi : Int) (rvt rva rfd : ByteArray) (k m : Int) (tx : ByteArray) (h : Env w g V L s) (hl : sde L s = (⟨lk, lvk, lvi, lvt, lva, lfd⟩, s1)) (ht : nxt L s1 = ⟨k, tx, m⟩) (hk : k = 4) (htx : tx.data.toList = [47, 61]) (hr : sde L s1.adv = (⟨rk, rvk, rvi, rvt, rva, rfd⟩, s2)) :
    Calls Tryd.prog 124 #[rp g] w (CPost w g V L ⟨5, [], ⟨lk, lvk, lvi, lvt, lva, lfd⟩, ⟨rk, rvk, rvi, rvt, rva, rfd⟩⟩ s2) := by
  have HL0 : Hid (Loc w g V L (w.alloc (.cells cm0.toArray 52)) s w.heap.size cm0 52) := Loc.start h cm0 _
  have hfin := h.fin
  have hpos := h.len
  have hgw := blk_lt h.blk
  have HI : Hid (s1.i < L.length) := (nxt_lt (by rw [ht]; show k ≠ 0; omega)).2
  have hq : (s1.i : Int) ≤ 700 := by have := HI.out; omega
  have HS : Hid (∀ W, Env W g V L s → Calls Tryd.prog 51 #[rp g] W fun e w' => e = .returned (opV ⟨lk, lvk, lvi, lvt, lva, lfd⟩) ∧ Env w' g V L s1 ∧ Fr (fun i => i = g) W w') := fun W hW => by
    have := side_any W g V L s hW
    rw [hl] at this
    exact this
  have HN : Hid (∀ W, Env W g V L s1 → Calls Tryd.prog 47 #[rp g] W fun e w' => e = .returned (.agg #[.int .i64 k, .string tx, .int .i64 m]) ∧ Fr (fun _ => False) W w') := fun W hW => by
    have := next_any W g V L s1 hW
    rw [ht] at this
    exact this
  have HS2 : Hid (∀ W, Env W g V L s1.adv → Calls Tryd.prog 51 #[rp g] W fun e w' => e = .returned (opV ⟨rk, rvk, rvi, rvt, rva, rfd⟩) ∧ Env w' g V L s2 ∧ Fr (fun i => i = g) W w') := fun W hW => by
    have := side_any W g V L s1.adv hW
    rw [hr] at this
    exact this
  have hb4 : (k == 4) = true := by simpa using hk
  have q0 : tx.toList = [47, 61] := by rw [Lib.toList_data, htx]
  clear hfin hpos hk htx hl ht hr h
  go_enter Tryd.func124, Tryd.ntmps124
  go_wp2_with (first
      | (refine wp_st (by rfl) 52 _ _ (by rfl) w.heap.size 0 cm0 52 (cnV 5 (.slice none 0 0) ⟨lk, lvk, lvi, lvt, lva, lfd⟩ ⟨rk, rvk, rvi, rvt, rva, rfd⟩) (cnC 5 (.slice none 0 0) ⟨lk, lvk, lvi, lvt, lva, lfd⟩ ⟨rk, rvk, rvi, rvt, rva, rfd⟩) (by rfl) (by rfl) (by rfl) HL4.out.blk (Nat.le_of_ble_eq_true rfl) (by kernel_rfl) (by rfl) ?_; intro w9 hw9 hf9; have HL9 : Hid (Lo2 w g V L w9 s2 w.heap.size (cnC 5 (.slice none 0 0) ⟨lk, lvk, lvi, lvt, lva, lfd⟩ ⟨rk, rvk, rvi, rvt, rva, rfd⟩) 52 w1.heap.size (opC ⟨lk, lvk, lvi, lvt, lva, lfd⟩) 50) := HL4.out.st hw9 hf9; clear hw9 hf9)
      | (go_at_call 51; refine (HS2.out _ HL3.out.env).mono ?_; rintro e w4 ⟨rfl, he4, hf4⟩; have HL4 : Hid (Lo2 w g V L (w4.alloc (.cells #[.int .i64 rk, .int .i64 rvk, .int .i64 rvi, .string rvt, .string rva, .string rfd] 50)) s2 w.heap.size cm0 52 w1.heap.size (opC ⟨lk, lvk, lvi, lvt, lva, lfd⟩) 50) := (HL3.out.call he4 hf4).alloc _; clear he4 hf4)
      | (go_at_call 47; refine (HN.out _ HL1.out.env).mono ?_; rintro e w2 ⟨rfl, hf2⟩; have HL2 : Hid (Lo2 w g V L (w2.alloc (.cells #[.int .i64 k, .string tx, .int .i64 m] 65)) s1 w.heap.size cm0 52 w1.heap.size (opC ⟨lk, lvk, lvi, lvt, lva, lfd⟩) 50) := (HL1.out.on hf2).alloc _; have c1 := HL2.out.env.c1; have f1 := HL2.out.env.fz 1; have hne1 : ¬ g = w2.heap.size := by { have h1 := blk_lt (HL1.out.on hf2).env.blk; omega }; have hne2 : ¬ w2.heap.size = g := by { omega }; have HL3 : Hid (Lo2 w g V L ((w2.alloc (.cells #[.int .i64 k, .string tx, .int .i64 m] 65)).setCell ⟨g, 1, none⟩ (.int .i64 ((s1.i : Int) + 1))) s1.adv w.heap.size cm0 52 w1.heap.size (opC ⟨lk, lvk, lvi, lvt, lva, lfd⟩) 50) := HL2.out.step HI.out; clear hf2)
      | (go_at_call 51; refine (HS.out _ HL0.out.env).mono ?_; rintro e w1 ⟨rfl, he1, hf1⟩; have HL1 : Hid (Lo2 w g V L (w1.alloc (.cells #[.int .i64 lk, .int .i64 lvk, .int .i64 lvi, .string lvt, .string lva, .string lfd] 50)) s1 w.heap.size cm0 52 w1.heap.size (opC ⟨lk, lvk, lvi, lvt, lva, lfd⟩) 50) := (HL0.out.call he1 hf1).two (opC ⟨lk, lvk, lvi, lvt, lva, lfd⟩) 50; clear he1 hf1)
      | (refine wp_ld (by rfl) 50 _ (by rfl) w1.heap.size (opC ⟨lk, lvk, lvi, lvt, lva, lfd⟩) 50 _ (by rfl) HL4.out.blk2 Tryd.underlying50 rfl (by kernel_rfl) ?_)
      | (refine wp_ld (by rfl) 50 _ (by rfl) w4.heap.size (opC ⟨rk, rvk, rvi, rvt, rva, rfd⟩) 50 _ (by rfl) (heap_alloc_new _ _) Tryd.underlying50 rfl (by kernel_rfl) ?_))
  refine ret_loc w.heap.size _ _ _ HL9.out.blk rfl rfl (by rfl) Tryd.underlying52 rfl (by kernel_rfl) ?_
  exact cpost_bare (c := ⟨5, [], ⟨lk, lvk, lvi, lvt, lva, lfd⟩, ⟨rk, rvk, rvi, rvt, rva, rfd⟩⟩) rfl HL9.out.env HL9.out.fr
set_option maxHeartbeats 4000000 in
theorem test_2 (w : World) (g : Nat) (V : Value) (L : List Tk) (s s1 s2 : St) (lk lvk lvi : Int) (lvt lva lfd : ByteArray) (rk rvk rvi : Int) (rvt rva rfd : ByteArray) (k m : Int) (tx : ByteArray) (h : Env w g V L s) (hl : sde L s = (⟨lk, lvk, lvi, lvt, lva, lfd⟩, s1)) (ht : nxt L s1 = ⟨k, tx, m⟩) (hk : k = 4) (htx : tx.data.toList = [60]) (hr : sde L s1.adv = (⟨rk, rvk, rvi, rvt, rva, rfd⟩, s2)) :
    Calls Tryd.prog 124 #[rp g] w (CPost w g V L ⟨6, [], ⟨lk, lvk, lvi, lvt, lva, lfd⟩, ⟨rk, rvk, rvi, rvt, rva, rfd⟩⟩ s2) := by
  have HL0 : Hid (Loc w g V L (w.alloc (.cells cm0.toArray 52)) s w.heap.size cm0 52) := Loc.start h cm0 _
  have hfin := h.fin
  have hpos := h.len
  have hgw := blk_lt h.blk
  have HI : Hid (s1.i < L.length) := (nxt_lt (by rw [ht]; show k ≠ 0; omega)).2
  have hq : (s1.i : Int) ≤ 700 := by have := HI.out; omega
  have HS : Hid (∀ W, Env W g V L s → Calls Tryd.prog 51 #[rp g] W fun e w' => e = .returned (opV ⟨lk, lvk, lvi, lvt, lva, lfd⟩) ∧ Env w' g V L s1 ∧ Fr (fun i => i = g) W w') := fun W hW => by
    have := side_any W g V L s hW
    rw [hl] at this
    exact this
  have HN : Hid (∀ W, Env W g V L s1 → Calls Tryd.prog 47 #[rp g] W fun e w' => e = .returned (.agg #[.int .i64 k, .string tx, .int .i64 m]) ∧ Fr (fun _ => False) W w') := fun W hW => by
    have := next_any W g V L s1 hW
    rw [ht] at this
    exact this
  have HS2 : Hid (∀ W, Env W g V L s1.adv → Calls Tryd.prog 51 #[rp g] W fun e w' => e = .returned (opV ⟨rk, rvk, rvi, rvt, rva, rfd⟩) ∧ Env w' g V L s2 ∧ Fr (fun i => i = g) W w') := fun W hW => by
    have := side_any W g V L s1.adv hW
    rw [hr] at this
    exact this
  have hb4 : (k == 4) = true := by simpa using hk
  have q0 : tx.toList = [60] := by rw [Lib.toList_data, htx]
  clear hfin hpos hk htx hl ht hr h
  go_enter Tryd.func124, Tryd.ntmps124
  go_wp2_with (first
      | (refine wp_st (by rfl) 52 _ _ (by rfl) w.heap.size 0 cm0 52 (cnV 6 (.slice none 0 0) ⟨lk, lvk, lvi, lvt, lva, lfd⟩ ⟨rk, rvk, rvi, rvt, rva, rfd⟩) (cnC 6 (.slice none 0 0) ⟨lk, lvk, lvi, lvt, lva, lfd⟩ ⟨rk, rvk, rvi, rvt, rva, rfd⟩) (by rfl) (by rfl) (by rfl) HL4.out.blk (Nat.le_of_ble_eq_true rfl) (by kernel_rfl) (by rfl) ?_; intro w9 hw9 hf9; have HL9 : Hid (Lo2 w g V L w9 s2 w.heap.size (cnC 6 (.slice none 0 0) ⟨lk, lvk, lvi, lvt, lva, lfd⟩ ⟨rk, rvk, rvi, rvt, rva, rfd⟩) 52 w1.heap.size (opC ⟨lk, lvk, lvi, lvt, lva, lfd⟩) 50) := HL4.out.st hw9 hf9; clear hw9 hf9)
      | (go_at_call 51; refine (HS2.out _ HL3.out.env).mono ?_; rintro e w4 ⟨rfl, he4, hf4⟩; have HL4 : Hid (Lo2 w g V L (w4.alloc (.cells #[.int .i64 rk, .int .i64 rvk, .int .i64 rvi, .string rvt, .string rva, .string rfd] 50)) s2 w.heap.size cm0 52 w1.heap.size (opC ⟨lk, lvk, lvi, lvt, lva, lfd⟩) 50) := (HL3.out.call he4 hf4).alloc _; clear he4 hf4)
      | (go_at_call 47; refine (HN.out _ HL1.out.env).mono ?_; rintro e w2 ⟨rfl, hf2⟩; have HL2 : Hid (Lo2 w g V L (w2.alloc (.cells #[.int .i64 k, .string tx, .int .i64 m] 65)) s1 w.heap.size cm0 52 w1.heap.size (opC ⟨lk, lvk, lvi, lvt, lva, lfd⟩) 50) := (HL1.out.on hf2).alloc _; have c1 := HL2.out.env.c1; have f1 := HL2.out.env.fz 1; have hne1 : ¬ g = w2.heap.size := by { have h1 := blk_lt (HL1.out.on hf2).env.blk; omega }; have hne2 : ¬ w2.heap.size = g := by { omega }; have HL3 : Hid (Lo2 w g V L ((w2.alloc (.cells #[.int .i64 k, .string tx, .int .i64 m] 65)).setCell ⟨g, 1, none⟩ (.int .i64 ((s1.i : Int) + 1))) s1.adv w.heap.size cm0 52 w1.heap.size (opC ⟨lk, lvk, lvi, lvt, lva, lfd⟩) 50) := HL2.out.step HI.out; clear hf2)
      | (go_at_call 51; refine (HS.out _ HL0.out.env).mono ?_; rintro e w1 ⟨rfl, he1, hf1⟩; have HL1 : Hid (Lo2 w g V L (w1.alloc (.cells #[.int .i64 lk, .int .i64 lvk, .int .i64 lvi, .string lvt, .string lva, .string lfd] 50)) s1 w.heap.size cm0 52 w1.heap.size (opC ⟨lk, lvk, lvi, lvt, lva, lfd⟩) 50) := (HL0.out.call he1 hf1).two (opC ⟨lk, lvk, lvi, lvt, lva, lfd⟩) 50; clear he1 hf1)
      | (refine wp_ld (by rfl) 50 _ (by rfl) w1.heap.size (opC ⟨lk, lvk, lvi, lvt, lva, lfd⟩) 50 _ (by rfl) HL4.out.blk2 Tryd.underlying50 rfl (by kernel_rfl) ?_)
      | (refine wp_ld (by rfl) 50 _ (by rfl) w4.heap.size (opC ⟨rk, rvk, rvi, rvt, rva, rfd⟩) 50 _ (by rfl) (heap_alloc_new _ _) Tryd.underlying50 rfl (by kernel_rfl) ?_))
  refine ret_loc w.heap.size _ _ _ HL9.out.blk rfl rfl (by rfl) Tryd.underlying52 rfl (by kernel_rfl) ?_
  exact cpost_bare (c := ⟨6, [], ⟨lk, lvk, lvi, lvt, lva, lfd⟩, ⟨rk, rvk, rvi, rvt, rva, rfd⟩⟩) rfl HL9.out.env HL9.out.fr
set_option maxHeartbeats 4000000 in
theorem test_3 (w : World) (g : Nat) (V : Value) (L : List Tk) (s s1 s2 : St) (lk lvk lvi : Int) (lvt lva lfd : ByteArray) (rk rvk rvi : Int) (rvt rva rfd : ByteArray) (k m : Int) (tx : ByteArray) (h : Env w g V L s) (hl : sde L s = (⟨lk, lvk, lvi, lvt, lva, lfd⟩, s1)) (ht : nxt L s1 = ⟨k, tx, m⟩) (hk : k = 4) (htx : tx.data.toList = [60, 61]) (hr : sde L s1.adv = (⟨rk, rvk, rvi, rvt, rva, rfd⟩, s2)) :
    Calls Tryd.prog 124 #[rp g] w (CPost w g V L ⟨7, [], ⟨lk, lvk, lvi, lvt, lva, lfd⟩, ⟨rk, rvk, rvi, rvt, rva, rfd⟩⟩ s2) := by
  have HL0 : Hid (Loc w g V L (w.alloc (.cells cm0.toArray 52)) s w.heap.size cm0 52) := Loc.start h cm0 _
  have hfin := h.fin
  have hpos := h.len
  have hgw := blk_lt h.blk
  have HI : Hid (s1.i < L.length) := (nxt_lt (by rw [ht]; show k ≠ 0; omega)).2
  have hq : (s1.i : Int) ≤ 700 := by have := HI.out; omega
  have HS : Hid (∀ W, Env W g V L s → Calls Tryd.prog 51 #[rp g] W fun e w' => e = .returned (opV ⟨lk, lvk, lvi, lvt, lva, lfd⟩) ∧ Env w' g V L s1 ∧ Fr (fun i => i = g) W w') := fun W hW => by
    have := side_any W g V L s hW
    rw [hl] at this
    exact this
  have HN : Hid (∀ W, Env W g V L s1 → Calls Tryd.prog 47 #[rp g] W fun e w' => e = .returned (.agg #[.int .i64 k, .string tx, .int .i64 m]) ∧ Fr (fun _ => False) W w') := fun W hW => by
    have := next_any W g V L s1 hW
    rw [ht] at this
    exact this
  have HS2 : Hid (∀ W, Env W g V L s1.adv → Calls Tryd.prog 51 #[rp g] W fun e w' => e = .returned (opV ⟨rk, rvk, rvi, rvt, rva, rfd⟩) ∧ Env w' g V L s2 ∧ Fr (fun i => i = g) W w') := fun W hW => by
    have := side_any W g V L s1.adv hW
    rw [hr] at this
    exact this
  have hb4 : (k == 4) = true := by simpa using hk
  have q0 : tx.toList = [60, 61] := by rw [Lib.toList_data, htx]
  clear hfin hpos hk htx hl ht hr h
  go_enter Tryd.func124, Tryd.ntmps124
  go_wp2_with (first
      | (refine wp_st (by rfl) 52 _ _ (by rfl) w.heap.size 0 cm0 52 (cnV 7 (.slice none 0 0) ⟨lk, lvk, lvi, lvt, lva, lfd⟩ ⟨rk, rvk, rvi, rvt, rva, rfd⟩) (cnC 7 (.slice none 0 0) ⟨lk, lvk, lvi, lvt, lva, lfd⟩ ⟨rk, rvk, rvi, rvt, rva, rfd⟩) (by rfl) (by rfl) (by rfl) HL4.out.blk (Nat.le_of_ble_eq_true rfl) (by kernel_rfl) (by rfl) ?_; intro w9 hw9 hf9; have HL9 : Hid (Lo2 w g V L w9 s2 w.heap.size (cnC 7 (.slice none 0 0) ⟨lk, lvk, lvi, lvt, lva, lfd⟩ ⟨rk, rvk, rvi, rvt, rva, rfd⟩) 52 w1.heap.size (opC ⟨lk, lvk, lvi, lvt, lva, lfd⟩) 50) := HL4.out.st hw9 hf9; clear hw9 hf9)
      | (go_at_call 51; refine (HS2.out _ HL3.out.env).mono ?_; rintro e w4 ⟨rfl, he4, hf4⟩; have HL4 : Hid (Lo2 w g V L (w4.alloc (.cells #[.int .i64 rk, .int .i64 rvk, .int .i64 rvi, .string rvt, .string rva, .string rfd] 50)) s2 w.heap.size cm0 52 w1.heap.size (opC ⟨lk, lvk, lvi, lvt, lva, lfd⟩) 50) := (HL3.out.call he4 hf4).alloc _; clear he4 hf4)
      | (go_at_call 47; refine (HN.out _ HL1.out.env).mono ?_; rintro e w2 ⟨rfl, hf2⟩; have HL2 : Hid (Lo2 w g V L (w2.alloc (.cells #[.int .i64 k, .string tx, .int .i64 m] 65)) s1 w.heap.size cm0 52 w1.heap.size (opC ⟨lk, lvk, lvi, lvt, lva, lfd⟩) 50) := (HL1.out.on hf2).alloc _; have c1 := HL2.out.env.c1; have f1 := HL2.out.env.fz 1; have hne1 : ¬ g = w2.heap.size := by { have h1 := blk_lt (HL1.out.on hf2).env.blk; omega }; have hne2 : ¬ w2.heap.size = g := by { omega }; have HL3 : Hid (Lo2 w g V L ((w2.alloc (.cells #[.int .i64 k, .string tx, .int .i64 m] 65)).setCell ⟨g, 1, none⟩ (.int .i64 ((s1.i : Int) + 1))) s1.adv w.heap.size cm0 52 w1.heap.size (opC ⟨lk, lvk, lvi, lvt, lva, lfd⟩) 50) := HL2.out.step HI.out; clear hf2)
      | (go_at_call 51; refine (HS.out _ HL0.out.env).mono ?_; rintro e w1 ⟨rfl, he1, hf1⟩; have HL1 : Hid (Lo2 w g V L (w1.alloc (.cells #[.int .i64 lk, .int .i64 lvk, .int .i64 lvi, .string lvt, .string lva, .string lfd] 50)) s1 w.heap.size cm0 52 w1.heap.size (opC ⟨lk, lvk, lvi, lvt, lva, lfd⟩) 50) := (HL0.out.call he1 hf1).two (opC ⟨lk, lvk, lvi, lvt, lva, lfd⟩) 50; clear he1 hf1)
      | (refine wp_ld (by rfl) 50 _ (by rfl) w1.heap.size (opC ⟨lk, lvk, lvi, lvt, lva, lfd⟩) 50 _ (by rfl) HL4.out.blk2 Tryd.underlying50 rfl (by kernel_rfl) ?_)
      | (refine wp_ld (by rfl) 50 _ (by rfl) w4.heap.size (opC ⟨rk, rvk, rvi, rvt, rva, rfd⟩) 50 _ (by rfl) (heap_alloc_new _ _) Tryd.underlying50 rfl (by kernel_rfl) ?_))
  refine ret_loc w.heap.size _ _ _ HL9.out.blk rfl rfl (by rfl) Tryd.underlying52 rfl (by kernel_rfl) ?_
  exact cpost_bare (c := ⟨7, [], ⟨lk, lvk, lvi, lvt, lva, lfd⟩, ⟨rk, rvk, rvi, rvt, rva, rfd⟩⟩) rfl HL9.out.env HL9.out.fr
set_option maxHeartbeats 4000000 in
theorem test_4 (w : World) (g : Nat) (V : Value) (L : List Tk) (s s1 s2 : St) (lk lvk lvi : Int) (lvt lva lfd : ByteArray) (rk rvk rvi : Int) (rvt rva rfd : ByteArray) (k m : Int) (tx : ByteArray) (h : Env w g V L s) (hl : sde L s = (⟨lk, lvk, lvi, lvt, lva, lfd⟩, s1)) (ht : nxt L s1 = ⟨k, tx, m⟩) (hk : k = 4) (htx : tx.data.toList = [62]) (hr : sde L s1.adv = (⟨rk, rvk, rvi, rvt, rva, rfd⟩, s2)) :
    Calls Tryd.prog 124 #[rp g] w (CPost w g V L ⟨6, [], ⟨rk, rvk, rvi, rvt, rva, rfd⟩, ⟨lk, lvk, lvi, lvt, lva, lfd⟩⟩ s2) := by
  have HL0 : Hid (Loc w g V L (w.alloc (.cells cm0.toArray 52)) s w.heap.size cm0 52) := Loc.start h cm0 _
  have hfin := h.fin
  have hpos := h.len
  have hgw := blk_lt h.blk
  have HI : Hid (s1.i < L.length) := (nxt_lt (by rw [ht]; show k ≠ 0; omega)).2
  have hq : (s1.i : Int) ≤ 700 := by have := HI.out; omega
  have HS : Hid (∀ W, Env W g V L s → Calls Tryd.prog 51 #[rp g] W fun e w' => e = .returned (opV ⟨lk, lvk, lvi, lvt, lva, lfd⟩) ∧ Env w' g V L s1 ∧ Fr (fun i => i = g) W w') := fun W hW => by
    have := side_any W g V L s hW
    rw [hl] at this
    exact this
  have HN : Hid (∀ W, Env W g V L s1 → Calls Tryd.prog 47 #[rp g] W fun e w' => e = .returned (.agg #[.int .i64 k, .string tx, .int .i64 m]) ∧ Fr (fun _ => False) W w') := fun W hW => by
    have := next_any W g V L s1 hW
    rw [ht] at this
    exact this
  have HS2 : Hid (∀ W, Env W g V L s1.adv → Calls Tryd.prog 51 #[rp g] W fun e w' => e = .returned (opV ⟨rk, rvk, rvi, rvt, rva, rfd⟩) ∧ Env w' g V L s2 ∧ Fr (fun i => i = g) W w') := fun W hW => by
    have := side_any W g V L s1.adv hW
    rw [hr] at this
    exact this
  have hb4 : (k == 4) = true := by simpa using hk
  have q0 : tx.toList = [62] := by rw [Lib.toList_data, htx]
  clear hfin hpos hk htx hl ht hr h
  go_enter Tryd.func124, Tryd.ntmps124
  go_wp2_with (first
      | (refine wp_st (by rfl) 52 _ _ (by rfl) w.heap.size 0 cm0 52 (cnV 6 (.slice none 0 0) ⟨rk, rvk, rvi, rvt, rva, rfd⟩ ⟨lk, lvk, lvi, lvt, lva, lfd⟩) (cnC 6 (.slice none 0 0) ⟨rk, rvk, rvi, rvt, rva, rfd⟩ ⟨lk, lvk, lvi, lvt, lva, lfd⟩) (by rfl) (by rfl) (by rfl) HL4.out.blk (Nat.le_of_ble_eq_true rfl) (by kernel_rfl) (by rfl) ?_; intro w9 hw9 hf9; have HL9 : Hid (Lo2 w g V L w9 s2 w.heap.size (cnC 6 (.slice none 0 0) ⟨rk, rvk, rvi, rvt, rva, rfd⟩ ⟨lk, lvk, lvi, lvt, lva, lfd⟩) 52 w1.heap.size (opC ⟨lk, lvk, lvi, lvt, lva, lfd⟩) 50) := HL4.out.st hw9 hf9; clear hw9 hf9)
      | (go_at_call 51; refine (HS2.out _ HL3.out.env).mono ?_; rintro e w4 ⟨rfl, he4, hf4⟩; have HL4 : Hid (Lo2 w g V L (w4.alloc (.cells #[.int .i64 rk, .int .i64 rvk, .int .i64 rvi, .string rvt, .string rva, .string rfd] 50)) s2 w.heap.size cm0 52 w1.heap.size (opC ⟨lk, lvk, lvi, lvt, lva, lfd⟩) 50) := (HL3.out.call he4 hf4).alloc _; clear he4 hf4)
      | (go_at_call 47; refine (HN.out _ HL1.out.env).mono ?_; rintro e w2 ⟨rfl, hf2⟩; have HL2 : Hid (Lo2 w g V L (w2.alloc (.cells #[.int .i64 k, .string tx, .int .i64 m] 65)) s1 w.heap.size cm0 52 w1.heap.size (opC ⟨lk, lvk, lvi, lvt, lva, lfd⟩) 50) := (HL1.out.on hf2).alloc _; have c1 := HL2.out.env.c1; have f1 := HL2.out.env.fz 1; have hne1 : ¬ g = w2.heap.size := by { have h1 := blk_lt (HL1.out.on hf2).env.blk; omega }; have hne2 : ¬ w2.heap.size = g := by { omega }; have HL3 : Hid (Lo2 w g V L ((w2.alloc (.cells #[.int .i64 k, .string tx, .int .i64 m] 65)).setCell ⟨g, 1, none⟩ (.int .i64 ((s1.i : Int) + 1))) s1.adv w.heap.size cm0 52 w1.heap.size (opC ⟨lk, lvk, lvi, lvt, lva, lfd⟩) 50) := HL2.out.step HI.out; clear hf2)
      | (go_at_call 51; refine (HS.out _ HL0.out.env).mono ?_; rintro e w1 ⟨rfl, he1, hf1⟩; have HL1 : Hid (Lo2 w g V L (w1.alloc (.cells #[.int .i64 lk, .int .i64 lvk, .int .i64 lvi, .string lvt, .string lva, .string lfd] 50)) s1 w.heap.size cm0 52 w1.heap.size (opC ⟨lk, lvk, lvi, lvt, lva, lfd⟩) 50) := (HL0.out.call he1 hf1).two (opC ⟨lk, lvk, lvi, lvt, lva, lfd⟩) 50; clear he1 hf1)
      | (refine wp_ld (by rfl) 50 _ (by rfl) w1.heap.size (opC ⟨lk, lvk, lvi, lvt, lva, lfd⟩) 50 _ (by rfl) HL4.out.blk2 Tryd.underlying50 rfl (by kernel_rfl) ?_)
      | (refine wp_ld (by rfl) 50 _ (by rfl) w4.heap.size (opC ⟨rk, rvk, rvi, rvt, rva, rfd⟩) 50 _ (by rfl) (heap_alloc_new _ _) Tryd.underlying50 rfl (by kernel_rfl) ?_))
  refine ret_loc w.heap.size _ _ _ HL9.out.blk rfl rfl (by rfl) Tryd.underlying52 rfl (by kernel_rfl) ?_
  exact cpost_bare (c := ⟨6, [], ⟨rk, rvk, rvi, rvt, rva, rfd⟩, ⟨lk, lvk, lvi, lvt, lva, lfd⟩⟩) rfl HL9.out.env HL9.out.fr
set_option maxHeartbeats 4000000 in
theorem test_5 (w : World) (g : Nat) (V : Value) (L : List Tk) (s s1 s2 : St) (lk lvk lvi : Int) (lvt lva lfd : ByteArray) (rk rvk rvi : Int) (rvt rva rfd : ByteArray) (k m : Int) (tx : ByteArray) (h : Env w g V L s) (hl : sde L s = (⟨lk, lvk, lvi, lvt, lva, lfd⟩, s1)) (ht : nxt L s1 = ⟨k, tx, m⟩) (hk : k = 4) (htx : tx.data.toList = [62, 61]) (hr : sde L s1.adv = (⟨rk, rvk, rvi, rvt, rva, rfd⟩, s2)) :
    Calls Tryd.prog 124 #[rp g] w (CPost w g V L ⟨7, [], ⟨rk, rvk, rvi, rvt, rva, rfd⟩, ⟨lk, lvk, lvi, lvt, lva, lfd⟩⟩ s2) := by
  have HL0 : Hid (Loc w g V L (w.alloc (.cells cm0.toArray 52)) s w.heap.size cm0 52) := Loc.start h cm0 _
  have hfin := h.fin
  have hpos := h.len
  have hgw := blk_lt h.blk
  have HI : Hid (s1.i < L.length) := (nxt_lt (by rw [ht]; show k ≠ 0; omega)).2
  have hq : (s1.i : Int) ≤ 700 := by have := HI.out; omega
  have HS : Hid (∀ W, Env W g V L s → Calls Tryd.prog 51 #[rp g] W fun e w' => e = .returned (opV ⟨lk, lvk, lvi, lvt, lva, lfd⟩) ∧ Env w' g V L s1 ∧ Fr (fun i => i = g) W w') := fun W hW => by
    have := side_any W g V L s hW
    rw [hl] at this
    exact this
  have HN : Hid (∀ W, Env W g V L s1 → Calls Tryd.prog 47 #[rp g] W fun e w' => e = .returned (.agg #[.int .i64 k, .string tx, .int .i64 m]) ∧ Fr (fun _ => False) W w') := fun W hW => by
    have := next_any W g V L s1 hW
    rw [ht] at this
    exact this
  have HS2 : Hid (∀ W, Env W g V L s1.adv → Calls Tryd.prog 51 #[rp g] W fun e w' => e = .returned (opV ⟨rk, rvk, rvi, rvt, rva, rfd⟩) ∧ Env w' g V L s2 ∧ Fr (fun i => i = g) W w') := fun W hW => by
    have := side_any W g V L s1.adv hW
    rw [hr] at this
    exact this
  have hb4 : (k == 4) = true := by simpa using hk
  have q0 : tx.toList = [62, 61] := by rw [Lib.toList_data, htx]
  clear hfin hpos hk htx hl ht hr h
  go_enter Tryd.func124, Tryd.ntmps124
  go_wp2_with (first
      | (refine wp_st (by rfl) 52 _ _ (by rfl) w.heap.size 0 cm0 52 (cnV 7 (.slice none 0 0) ⟨rk, rvk, rvi, rvt, rva, rfd⟩ ⟨lk, lvk, lvi, lvt, lva, lfd⟩) (cnC 7 (.slice none 0 0) ⟨rk, rvk, rvi, rvt, rva, rfd⟩ ⟨lk, lvk, lvi, lvt, lva, lfd⟩) (by rfl) (by rfl) (by rfl) HL4.out.blk (Nat.le_of_ble_eq_true rfl) (by kernel_rfl) (by rfl) ?_; intro w9 hw9 hf9; have HL9 : Hid (Lo2 w g V L w9 s2 w.heap.size (cnC 7 (.slice none 0 0) ⟨rk, rvk, rvi, rvt, rva, rfd⟩ ⟨lk, lvk, lvi, lvt, lva, lfd⟩) 52 w1.heap.size (opC ⟨lk, lvk, lvi, lvt, lva, lfd⟩) 50) := HL4.out.st hw9 hf9; clear hw9 hf9)
      | (go_at_call 51; refine (HS2.out _ HL3.out.env).mono ?_; rintro e w4 ⟨rfl, he4, hf4⟩; have HL4 : Hid (Lo2 w g V L (w4.alloc (.cells #[.int .i64 rk, .int .i64 rvk, .int .i64 rvi, .string rvt, .string rva, .string rfd] 50)) s2 w.heap.size cm0 52 w1.heap.size (opC ⟨lk, lvk, lvi, lvt, lva, lfd⟩) 50) := (HL3.out.call he4 hf4).alloc _; clear he4 hf4)
      | (go_at_call 47; refine (HN.out _ HL1.out.env).mono ?_; rintro e w2 ⟨rfl, hf2⟩; have HL2 : Hid (Lo2 w g V L (w2.alloc (.cells #[.int .i64 k, .string tx, .int .i64 m] 65)) s1 w.heap.size cm0 52 w1.heap.size (opC ⟨lk, lvk, lvi, lvt, lva, lfd⟩) 50) := (HL1.out.on hf2).alloc _; have c1 := HL2.out.env.c1; have f1 := HL2.out.env.fz 1; have hne1 : ¬ g = w2.heap.size := by { have h1 := blk_lt (HL1.out.on hf2).env.blk; omega }; have hne2 : ¬ w2.heap.size = g := by { omega }; have HL3 : Hid (Lo2 w g V L ((w2.alloc (.cells #[.int .i64 k, .string tx, .int .i64 m] 65)).setCell ⟨g, 1, none⟩ (.int .i64 ((s1.i : Int) + 1))) s1.adv w.heap.size cm0 52 w1.heap.size (opC ⟨lk, lvk, lvi, lvt, lva, lfd⟩) 50) := HL2.out.step HI.out; clear hf2)
      | (go_at_call 51; refine (HS.out _ HL0.out.env).mono ?_; rintro e w1 ⟨rfl, he1, hf1⟩; have HL1 : Hid (Lo2 w g V L (w1.alloc (.cells #[.int .i64 lk, .int .i64 lvk, .int .i64 lvi, .string lvt, .string lva, .string lfd] 50)) s1 w.heap.size cm0 52 w1.heap.size (opC ⟨lk, lvk, lvi, lvt, lva, lfd⟩) 50) := (HL0.out.call he1 hf1).two (opC ⟨lk, lvk, lvi, lvt, lva, lfd⟩) 50; clear he1 hf1)
      | (refine wp_ld (by rfl) 50 _ (by rfl) w1.heap.size (opC ⟨lk, lvk, lvi, lvt, lva, lfd⟩) 50 _ (by rfl) HL4.out.blk2 Tryd.underlying50 rfl (by kernel_rfl) ?_)
      | (refine wp_ld (by rfl) 50 _ (by rfl) w4.heap.size (opC ⟨rk, rvk, rvi, rvt, rva, rfd⟩) 50 _ (by rfl) (heap_alloc_new _ _) Tryd.underlying50 rfl (by kernel_rfl) ?_))
  refine ret_loc w.heap.size _ _ _ HL9.out.blk rfl rfl (by rfl) Tryd.underlying52 rfl (by kernel_rfl) ?_
  exact cpost_bare (c := ⟨7, [], ⟨rk, rvk, rvi, rvt, rva, rfd⟩, ⟨lk, lvk, lvi, lvt, lva, lfd⟩⟩) rfl HL9.out.env HL9.out.fr
set_option maxHeartbeats 4000000 in
theorem test_bad (w : World) (g : Nat) (V : Value) (L : List Tk) (s s1 s2 : St) (lk lvk lvi : Int) (lvt lva lfd : ByteArray) (k m : Int) (tx : ByteArray) (h : Env w g V L s) (hl : sde L s = (⟨lk, lvk, lvi, lvt, lva, lfd⟩, s1)) (ht : nxt L s1 = ⟨k, tx, m⟩) (hk : ¬ k = 4) (h_s2 : fal L s1 = s2) :
    Calls Tryd.prog 124 #[rp g] w (CPost w g V L cn0 s2) := by
  have HL0 : Hid (Loc w g V L (w.alloc (.cells cm0.toArray 52)) s w.heap.size cm0 52) := Loc.start h cm0 _
  have hfin := h.fin
  have hpos := h.len
  have hgw := blk_lt h.blk
  have HS : Hid (∀ W, Env W g V L s → Calls Tryd.prog 51 #[rp g] W fun e w' => e = .returned (opV ⟨lk, lvk, lvi, lvt, lva, lfd⟩) ∧ Env w' g V L s1 ∧ Fr (fun i => i = g) W w') := fun W hW => by
    have := side_any W g V L s hW
    rw [hl] at this
    exact this
  have HN : Hid (∀ W, Env W g V L s1 → Calls Tryd.prog 47 #[rp g] W fun e w' => e = .returned (.agg #[.int .i64 k, .string tx, .int .i64 m]) ∧ Fr (fun _ => False) W w') := fun W hW => by
    have := next_any W g V L s1 hW
    rw [ht] at this
    exact this
  have HWR : Hid (∀ W, Env W g V L s1 → Calls Tryd.prog 24 #[rp g] W fun e w' => e = .returned (.tuple #[]) ∧ Env w' g V L s2 ∧ Fr (fun i => i = g) W w') := fun W hW => by
    have := wrong_any W g V L s1 hW
    rw [h_s2] at this
    exact this
  have hb4 : (k == 4) = false := by simpa using hk
  clear hfin hpos hk hl ht h_s2 h
  go_enter Tryd.func124, Tryd.ntmps124
  go_wp2_with (first
      | (go_at_call 51; refine (HS.out _ HL0.out.env).mono ?_; rintro e w1 ⟨rfl, he1, hf1⟩; have HL1 : Hid (Lo2 w g V L (w1.alloc (.cells #[.int .i64 lk, .int .i64 lvk, .int .i64 lvi, .string lvt, .string lva, .string lfd] 50)) s1 w.heap.size cm0 52 w1.heap.size (opC ⟨lk, lvk, lvi, lvt, lva, lfd⟩) 50) := (HL0.out.call he1 hf1).two (opC ⟨lk, lvk, lvi, lvt, lva, lfd⟩) 50; clear he1 hf1)
      | (go_at_call 47; refine (HN.out _ HL1.out.env).mono ?_; rintro e w2 ⟨rfl, hf2⟩; have HL2 : Hid (Lo2 w g V L (w2.alloc (.cells #[.int .i64 k, .string tx, .int .i64 m] 65)) s1 w.heap.size cm0 52 w1.heap.size (opC ⟨lk, lvk, lvi, lvt, lva, lfd⟩) 50) := (HL1.out.on hf2).alloc _; clear hf2)
      | (go_at_call 24; refine (HWR.out _ HL2.out.env).mono ?_; rintro e w3 ⟨rfl, he3, hf3⟩; have HL3 : Hid (Lo2 w g V L w3 s2 w.heap.size cm0 52 w1.heap.size (opC ⟨lk, lvk, lvi, lvt, lva, lfd⟩) 50) := HL2.out.call he3 hf3; clear he3 hf3)
      | (refine wp_st (by rfl) 52 _ _ (by rfl) w.heap.size 0 cm0 52 (cnV 0 (.slice none 0 0) opd0 opd0) (cnC 0 (.slice none 0 0) opd0 opd0) (by rfl) (by rfl) (by rfl) HL3.out.blk (Nat.le_of_ble_eq_true rfl) (by kernel_rfl) (by rfl) ?_; intro w9 hw9 hf9; have HL9 : Hid (Lo2 w g V L w9 s2 w.heap.size (cnC 0 (.slice none 0 0) opd0 opd0) 52 w1.heap.size (opC ⟨lk, lvk, lvi, lvt, lva, lfd⟩) 50) := HL3.out.st hw9 hf9; clear hw9 hf9))
  refine ret_loc w.heap.size _ _ _ HL9.out.blk rfl rfl (by rfl) Tryd.underlying52 rfl (by kernel_rfl) ?_
  exact cpost_bare (c := cn0) rfl HL9.out.env HL9.out.fr
set_option maxHeartbeats 4000000 in
theorem test_none (w : World) (g : Nat) (V : Value) (L : List Tk) (s s1 s2 : St) (lk lvk lvi : Int) (lvt lva lfd : ByteArray) (k m : Int) (tx : ByteArray) (h : Env w g V L s) (hl : sde L s = (⟨lk, lvk, lvi, lvt, lva, lfd⟩, s1)) (ht : nxt L s1 = ⟨k, tx, m⟩) (hk : k = 4) (hno : tx.data.toList ≠ [61] ∧ tx.data.toList ≠ [47, 61] ∧ tx.data.toList ≠ [60] ∧ tx.data.toList ≠ [60, 61] ∧ tx.data.toList ≠ [62] ∧ tx.data.toList ≠ [62, 61]) (h_s2 : fal L s1 = s2) :
    Calls Tryd.prog 124 #[rp g] w (CPost w g V L cn0 s2) := by
  have HL0 : Hid (Loc w g V L (w.alloc (.cells cm0.toArray 52)) s w.heap.size cm0 52) := Loc.start h cm0 _
  have hfin := h.fin
  have hpos := h.len
  have hgw := blk_lt h.blk
  have HS : Hid (∀ W, Env W g V L s → Calls Tryd.prog 51 #[rp g] W fun e w' => e = .returned (opV ⟨lk, lvk, lvi, lvt, lva, lfd⟩) ∧ Env w' g V L s1 ∧ Fr (fun i => i = g) W w') := fun W hW => by
    have := side_any W g V L s hW
    rw [hl] at this
    exact this
  have HN : Hid (∀ W, Env W g V L s1 → Calls Tryd.prog 47 #[rp g] W fun e w' => e = .returned (.agg #[.int .i64 k, .string tx, .int .i64 m]) ∧ Fr (fun _ => False) W w') := fun W hW => by
    have := next_any W g V L s1 hW
    rw [ht] at this
    exact this
  have HWR : Hid (∀ W, Env W g V L s1 → Calls Tryd.prog 24 #[rp g] W fun e w' => e = .returned (.tuple #[]) ∧ Env w' g V L s2 ∧ Fr (fun i => i = g) W w') := fun W hW => by
    have := wrong_any W g V L s1 hW
    rw [h_s2] at this
    exact this
  have hb4 : (k == 4) = true := by simpa using hk
  have q0 : ¬ tx.toList = [61] := by rw [Lib.toList_data]; exact hno.1
  have p0 : (tx.toList == [61]) = false := by simpa using q0
  have q1 : ¬ tx.toList = [47, 61] := by rw [Lib.toList_data]; exact hno.2.1
  have p1 : (tx.toList == [47, 61]) = false := by simpa using q1
  have q2 : ¬ tx.toList = [60] := by rw [Lib.toList_data]; exact hno.2.2.1
  have p2 : (tx.toList == [60]) = false := by simpa using q2
  have q3 : ¬ tx.toList = [60, 61] := by rw [Lib.toList_data]; exact hno.2.2.2.1
  have p3 : (tx.toList == [60, 61]) = false := by simpa using q3
  have q4 : ¬ tx.toList = [62] := by rw [Lib.toList_data]; exact hno.2.2.2.2.1
  have p4 : (tx.toList == [62]) = false := by simpa using q4
  have q5 : ¬ tx.toList = [62, 61] := by rw [Lib.toList_data]; exact hno.2.2.2.2.2
  have p5 : (tx.toList == [62, 61]) = false := by simpa using q5
  clear hfin hpos hk hl ht h_s2 h hno
  go_enter Tryd.func124, Tryd.ntmps124
  go_wp2_with (first
      | (go_at_call 51; refine (HS.out _ HL0.out.env).mono ?_; rintro e w1 ⟨rfl, he1, hf1⟩; have HL1 : Hid (Lo2 w g V L (w1.alloc (.cells #[.int .i64 lk, .int .i64 lvk, .int .i64 lvi, .string lvt, .string lva, .string lfd] 50)) s1 w.heap.size cm0 52 w1.heap.size (opC ⟨lk, lvk, lvi, lvt, lva, lfd⟩) 50) := (HL0.out.call he1 hf1).two (opC ⟨lk, lvk, lvi, lvt, lva, lfd⟩) 50; clear he1 hf1)
      | (go_at_call 47; refine (HN.out _ HL1.out.env).mono ?_; rintro e w2 ⟨rfl, hf2⟩; have HL2 : Hid (Lo2 w g V L (w2.alloc (.cells #[.int .i64 k, .string tx, .int .i64 m] 65)) s1 w.heap.size cm0 52 w1.heap.size (opC ⟨lk, lvk, lvi, lvt, lva, lfd⟩) 50) := (HL1.out.on hf2).alloc _; clear hf2)
      | (go_at_call 24; refine (HWR.out _ HL2.out.env).mono ?_; rintro e w3 ⟨rfl, he3, hf3⟩; have HL3 : Hid (Lo2 w g V L w3 s2 w.heap.size cm0 52 w1.heap.size (opC ⟨lk, lvk, lvi, lvt, lva, lfd⟩) 50) := HL2.out.call he3 hf3; clear he3 hf3)
      | (refine wp_st (by rfl) 52 _ _ (by rfl) w.heap.size 0 cm0 52 (cnV 0 (.slice none 0 0) opd0 opd0) (cnC 0 (.slice none 0 0) opd0 opd0) (by rfl) (by rfl) (by rfl) HL3.out.blk (Nat.le_of_ble_eq_true rfl) (by kernel_rfl) (by rfl) ?_; intro w9 hw9 hf9; have HL9 : Hid (Lo2 w g V L w9 s2 w.heap.size (cnC 0 (.slice none 0 0) opd0 opd0) 52 w1.heap.size (opC ⟨lk, lvk, lvi, lvt, lva, lfd⟩) 50) := HL3.out.st hw9 hf9; clear hw9 hf9))
  refine ret_loc w.heap.size _ _ _ HL9.out.blk rfl rfl (by rfl) Tryd.underlying52 rfl (by kernel_rfl) ?_
  exact cpost_bare (c := cn0) rfl HL9.out.env HL9.out.fr
theorem test_any (w : World) (g : Nat) (V : Value) (L : List Tk) (s : St) (h : Env w g V L s) : Calls Tryd.prog 124 #[rp g] w (CPost w g V L (cmp L s).1 (cmp L s).2) := by
  obtain ⟨⟨⟨lk, lvk, lvi, lvt, lva, lfd⟩, s1⟩, hl⟩ : ∃ p, sde L s = p := ⟨_, rfl⟩
  obtain ⟨⟨⟨rk, rvk, rvi, rvt, rva, rfd⟩, s2⟩, hr⟩ : ∃ p, sde L s1.adv = p := ⟨_, rfl⟩
  obtain ⟨⟨k, tx, m⟩, ht⟩ : ∃ p, nxt L s1 = p := ⟨_, rfl⟩
  have hsee : ∀ x ∈ mkl, see L x s1 = (decide (k = 4) && decide (tx.data.toList = x)) := fun x hx => by
    have := see_mark (s := s1) h.fin hx
    rw [ht] at this
    exact this
  have e0 := hsee [61] (by decide)
  have e1 := hsee [47, 61] (by decide)
  have e2 := hsee [60] (by decide)
  have e3 := hsee [60, 61] (by decide)
  have e4 := hsee [62] (by decide)
  have e5 := hsee [62, 61] (by decide)
  unfold cmp
  rw [hl]
  simp only [cml, cmf, hr]
  by_cases hk : k = 4
  · simp only [hk, decide_true, Bool.true_and] at e0 e1 e2 e3 e4 e5
    by_cases c0 : tx.data.toList = [61]
    · rw [c0] at e0 e1 e2 e3 e4 e5
      simp only [e0, e1, e2, e3, e4, e5, show (decide ([61] = [61])) = true by decide, show decide (([61] : List UInt8) = [47, 61]) = false by decide, show decide (([61] : List UInt8) = [60]) = false by decide, show decide (([61] : List UInt8) = [60, 61]) = false by decide, show decide (([61] : List UInt8) = [62]) = false by decide, show decide (([61] : List UInt8) = [62, 61]) = false by decide, if_true, Bool.false_eq_true, if_false]
      exact test_0 w g V L s s1 s2 _ _ _ _ _ _ _ _ _ _ _ _ k m tx h hl ht hk c0 hr
    by_cases c1 : tx.data.toList = [47, 61]
    · rw [c1] at e0 e1 e2 e3 e4 e5
      simp only [e0, e1, e2, e3, e4, e5, show (decide ([47, 61] = [47, 61])) = true by decide, show decide (([47, 61] : List UInt8) = [61]) = false by decide, show decide (([47, 61] : List UInt8) = [60]) = false by decide, show decide (([47, 61] : List UInt8) = [60, 61]) = false by decide, show decide (([47, 61] : List UInt8) = [62]) = false by decide, show decide (([47, 61] : List UInt8) = [62, 61]) = false by decide, if_true, Bool.false_eq_true, if_false]
      exact test_1 w g V L s s1 s2 _ _ _ _ _ _ _ _ _ _ _ _ k m tx h hl ht hk c1 hr
    by_cases c2 : tx.data.toList = [60]
    · rw [c2] at e0 e1 e2 e3 e4 e5
      simp only [e0, e1, e2, e3, e4, e5, show (decide ([60] = [60])) = true by decide, show decide (([60] : List UInt8) = [61]) = false by decide, show decide (([60] : List UInt8) = [47, 61]) = false by decide, show decide (([60] : List UInt8) = [60, 61]) = false by decide, show decide (([60] : List UInt8) = [62]) = false by decide, show decide (([60] : List UInt8) = [62, 61]) = false by decide, if_true, Bool.false_eq_true, if_false]
      exact test_2 w g V L s s1 s2 _ _ _ _ _ _ _ _ _ _ _ _ k m tx h hl ht hk c2 hr
    by_cases c3 : tx.data.toList = [60, 61]
    · rw [c3] at e0 e1 e2 e3 e4 e5
      simp only [e0, e1, e2, e3, e4, e5, show (decide ([60, 61] = [60, 61])) = true by decide, show decide (([60, 61] : List UInt8) = [61]) = false by decide, show decide (([60, 61] : List UInt8) = [47, 61]) = false by decide, show decide (([60, 61] : List UInt8) = [60]) = false by decide, show decide (([60, 61] : List UInt8) = [62]) = false by decide, show decide (([60, 61] : List UInt8) = [62, 61]) = false by decide, if_true, Bool.false_eq_true, if_false]
      exact test_3 w g V L s s1 s2 _ _ _ _ _ _ _ _ _ _ _ _ k m tx h hl ht hk c3 hr
    by_cases c4 : tx.data.toList = [62]
    · rw [c4] at e0 e1 e2 e3 e4 e5
      simp only [e0, e1, e2, e3, e4, e5, show (decide ([62] = [62])) = true by decide, show decide (([62] : List UInt8) = [61]) = false by decide, show decide (([62] : List UInt8) = [47, 61]) = false by decide, show decide (([62] : List UInt8) = [60]) = false by decide, show decide (([62] : List UInt8) = [60, 61]) = false by decide, show decide (([62] : List UInt8) = [62, 61]) = false by decide, if_true, Bool.false_eq_true, if_false]
      exact test_4 w g V L s s1 s2 _ _ _ _ _ _ _ _ _ _ _ _ k m tx h hl ht hk c4 hr
    by_cases c5 : tx.data.toList = [62, 61]
    · rw [c5] at e0 e1 e2 e3 e4 e5
      simp only [e0, e1, e2, e3, e4, e5, show (decide ([62, 61] = [62, 61])) = true by decide, show decide (([62, 61] : List UInt8) = [61]) = false by decide, show decide (([62, 61] : List UInt8) = [47, 61]) = false by decide, show decide (([62, 61] : List UInt8) = [60]) = false by decide, show decide (([62, 61] : List UInt8) = [60, 61]) = false by decide, show decide (([62, 61] : List UInt8) = [62]) = false by decide, if_true, Bool.false_eq_true, if_false]
      exact test_5 w g V L s s1 s2 _ _ _ _ _ _ _ _ _ _ _ _ k m tx h hl ht hk c5 hr
    simp only [e0, e1, e2, e3, e4, e5, c0, c1, c2, c3, c4, c5, decide_false, Bool.false_eq_true, if_false]
    exact test_none w g V L s s1 _ _ _ _ _ _ _ k m tx h hl ht hk ⟨c0, c1, c2, c3, c4, c5⟩ rfl
  · simp only [hk, decide_false, Bool.false_and] at e0 e1 e2 e3 e4 e5
    simp only [e0, e1, e2, e3, e4, e5, Bool.false_eq_true, if_false]
    exact test_bad w g V L s s1 _ _ _ _ _ _ _ k m tx h hl ht hk rfl
end Go.Proofs.YtnlmkdncifijlaaDoor.Ref
