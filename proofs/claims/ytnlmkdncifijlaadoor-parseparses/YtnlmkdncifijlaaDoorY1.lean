/-
  The reference's reader of tokens: its smallest functions.
-/
import Derived.Test.YtnlmkdncifijlaaDoorE
import Derived.Test.YtnlmkdncifijlaaDoorZr
import Derived.Test.YtnlmkdncifijlaaDoorKR
namespace Go.Proofs.YtnlmkdncifijlaaDoor.Ref
open Go.ChangeShapes Go.WideShapes Go.ChangeAt Go.RowKit
set_option linter.unusedVariables false
set_option linter.unusedSimpArgs false
/-- A reader in block g; its tokens (the slice V) lie in lower blocks. -/
structure Env (w : World) (g : Nat) (V : Value) (L : List Tk) (s : St) : Prop where
  blk : w.heap[g]? = some (.cells #[V, .int .i64 s.i, .int .i64 s.e] 72 (0, 0))
  tok : TokensAt w V L
  low : 0 < L.length → ∀ b, V.ownBlock = some b → b < g
  len : L.length ≤ 700
  pos : s.i ≤ L.length
  fin : ∀ t, t ∈ L → tchk t = 0
theorem Env.on {w w' : World} {g : Nat} {V : Value} {L : List Tk} {s s' : St} (h : Env w g V L s) (hs : w.heap.size ≤ w'.heap.size) (hb : ∀ k, k < g → w'.heap[k]? = w.heap[k]?)
    (hg : w'.heap[g]? = some (.cells #[V, .int .i64 s'.i, .int .i64 s'.e] 72 (0, 0))) (hp : s'.i ≤ L.length) : Env w' g V L s' := by
  have hc : ∀ (b o : Nat), b < g → w'.cell? ⟨b, o, none⟩ = w.cell? ⟨b, o, none⟩ := fun b o hlt => World.cell?_of_block (hb b hlt)
  refine ⟨hg, ?_, h.low, h.len, hp, h.fin⟩
  obtain ⟨p, cap, rfl, h1, h2, h3⟩ := h.tok
  refine ⟨p, cap, rfl, h1, h2, fun h0 => ?_⟩
  obtain ⟨b, off, rfl, h4⟩ := h3 h0
  have hlt : b < g := h.low h0 b rfl
  refine ⟨b, off, rfl, fun j hj => ?_⟩
  obtain ⟨a, b0, b1, b2⟩ := h4 j hj
  exact ⟨Nat.lt_of_lt_of_le a hs, (hc _ _ hlt).trans b0, (hc _ _ hlt).trans b1, (hc _ _ hlt).trans b2⟩
/-- How much is open stands nowhere. -/
theorem Env.any {w : World} {g : Nat} {V : Value} {L : List Tk} {s s' : St} (h : Env w g V L s) (hi : s'.i = s.i) (he : s'.e = s.e) : Env w g V L s' :=
  ⟨by rw [hi, he]; exact h.blk, h.tok, h.low, h.len, by rw [hi]; exact h.pos, h.fin⟩
theorem Env.fr {w w' : World} {g : Nat} {V : Value} {L : List Tk} {s : St} (h : Env w g V L s) (hf : Fr (fun _ => False) w w') : Env w' g V L s :=
  h.on hf.size (fun k hk => hf.block k (by have := blk_lt h.blk; omega) id) ((hf.block g (blk_lt h.blk) id).trans h.blk) h.pos
theorem Env.alloc {w : World} {g : Nat} {V : Value} {L : List Tk} {s : St} (h : Env w g V L s) (o : Obj) : Env (w.alloc o) g V L s := h.fr ((Fr.refl _ _).alloc o)
theorem Env.drewN {w : World} {g : Nat} {V : Value} {L : List Tk} {s : St} (h : Env w g V L s) (n : Nat) : Env (w.drewN n) g V L s := h.fr ((Fr.refl _ _).drewN n)
theorem Env.setCell {w : World} {g : Nat} {V : Value} {L : List Tk} {s : St} (h : Env w g V L s) (p : Addr) (hp : g < p.block) (u : Value) : Env (w.setCell p u) g V L s :=
  h.on (by simp [World.setCell]) (fun k hk => Below.heap_setCell _ _ _ _ (by omega)) ((Below.heap_setCell _ _ _ _ (by omega)).trans h.blk) h.pos
theorem Env.put {w w' : World} {g : Nat} {V : Value} {L : List Tk} {s s' : St} (h : Env w g V L s) (hf : Fr (fun i => i = g) w w') (hg : w'.heap[g]? = some (.cells #[V, .int .i64 s'.i, .int .i64 s'.e] 72 (0, 0))) (hp : s'.i ≤ L.length) : Env w' g V L s' :=
  h.on hf.size (fun k hk => hf.block k (by have := blk_lt h.blk; omega) (by show ¬ k = g; omega)) hg hp
section
variable {w : World} {g : Nat} {V : Value} {L : List Tk} {s : St}
theorem Env.c0 (h : Env w g V L s) : w.cell? ⟨g, 0, none⟩ = some V := by rw [cell_of_blk h.blk]; rfl
theorem Env.c1 (h : Env w g V L s) : w.cell? ⟨g, 1, none⟩ = some (.int .i64 s.i) := by rw [cell_of_blk h.blk]; rfl
theorem Env.c2 (h : Env w g V L s) : w.cell? ⟨g, 2, none⟩ = some (.int .i64 s.e) := by rw [cell_of_blk h.blk]; rfl
theorem Env.fz (h : Env w g V L s) (j : Nat) : w.frozen? ⟨g, j, none⟩ = false := free_of_blk h.blk j
theorem Env.shape (h : Env w g V L s) : ∃ p cap, V = .slice p L.length cap := by
  obtain ⟨p, cap, h1, _⟩ := h.tok
  exact ⟨p, cap, h1⟩
theorem Env.step (h : Env w g V L s) (hi : s.i < L.length) : Env (w.setCell ⟨g, 1, none⟩ (.int .i64 ((s.i : Int) + 1))) g V L s.adv :=
  h.put (fr_put _ _ _ _) (by rw [blk_set h.blk]; rfl) (by show s.i + 1 ≤ _; omega)
theorem Env.siz (h : Env w g V L s) (h0 : (nxt L s).k ≠ 0) : tchk (nxt L s) = 0 := h.fin _ (nxt_mem h0)
end
theorem drewN_heap (w : World) : ∀ n, (w.drewN n).heap = w.heap
  | 0 => rfl
  | n + 1 => (show ((w.drewN n).drew).heap = w.heap from drewN_heap w n)
set_option maxHeartbeats 2000000 in
theorem wrong_any (w : World) (g : Nat) (V : Value) (L : List Tk) (s : St) (h : Env w g V L s) :
    Calls Tryd.prog 24 #[rp g] w fun e w' => e = .returned (.tuple #[]) ∧ Env w' g V L (fal L s) ∧ Fr (fun i => i = g) w w' := by
  obtain ⟨p, cap, rfl⟩ := h.shape
  have HE : Hid (Env w g (.slice p L.length cap) L s) := h
  have c0 := h.c0
  have c1 := h.c1
  have c2 := h.c2
  have f2 := h.fz 2
  have hp := h.pos
  obtain ⟨n, hn⟩ : ∃ n, L.length = n := ⟨_, rfl⟩
  have HN : Hid (L.length = n) := hn
  by_cases he : s.e = 0
  · have hb : (s.e != 0) = false := by simpa using he
    have hfl : fal L s = ⟨s.i, s.o, if s.i = L.length then 5 else 4⟩ := by unfold fal; rw [if_pos he]
    rw [hfl]
    by_cases hi : s.i = L.length
    · rw [if_pos hi]
      have hd2 : (n : Int) ≤ (s.i : Int) := by omega
      rw [hn] at c0 HE ⊢
      clear he hi hfl h hn hp
      go_enter Tryd.func24, Tryd.ntmps24
      go_wp2_with fail
      go_quiet (fail)
      go_wp2_with fail
      go_end0
      have h := HE.out
      have hf : Fr (fun i => i = g) w (((w.setCell ⟨g, 2, none⟩ (.int .i64 4)).drewN nq).setCell ⟨g, 2, none⟩ (.int .i64 5)) := ((fr_put _ _ _ _).drewN nq).trans (fr_put _ _ _ _)
      refine ⟨rfl, h.put (s' := ⟨s.i, s.o, 5⟩) hf ?_ h.pos, hf⟩
      rw [blk_set (cs := #[.slice p n cap, .int .i64 s.i, .int .i64 4]) (T := 72) (by rw [drewN_heap, blk_set h.blk]; rfl)]
      rfl
    · rw [if_neg hi]
      have hd2 : ¬ (n : Int) ≤ (s.i : Int) := by omega
      rw [hn] at c0 HE ⊢
      clear he hi hfl h hn hp
      go_enter Tryd.func24, Tryd.ntmps24
      go_wp2_with fail
      go_quiet (fail)
      go_wp2_with fail
      go_end0
      have h := HE.out
      have hf : Fr (fun i => i = g) w ((w.setCell ⟨g, 2, none⟩ (.int .i64 4)).drewN nq) := (fr_put _ _ _ _).drewN nq
      refine ⟨rfl, h.put (s' := ⟨s.i, s.o, 4⟩) hf ?_ h.pos, hf⟩
      rw [drewN_heap, blk_set h.blk]
      rfl
  · have hb : (s.e != 0) = true := by simpa using he
    rw [fal_err he]
    clear he h hp hn
    go_enter Tryd.func24, Tryd.ntmps24
    go_wp2
    refine bodyPost_ret (results_none rfl _ _ _) rfl ?_
    exact ⟨rfl, HE.out, Fr.refl _ _⟩
set_option maxHeartbeats 2000000 in
theorem next_any (w : World) (g : Nat) (V : Value) (L : List Tk) (s : St) (h : Env w g V L s) :
    Calls Tryd.prog 47 #[rp g] w fun e w' => e = .returned (tV (nxt L s)) ∧ Fr (fun _ => False) w w' := by
  obtain ⟨p, cap, rfl⟩ := h.shape
  have h' := h
  have c0 : ∀ o, (w.alloc o).cell? ⟨g, 0, none⟩ = some (.slice p L.length cap) := fun o => (h.alloc o).c0
  have c1 : ∀ o, (w.alloc o).cell? ⟨g, 1, none⟩ = some (.int .i64 s.i) := fun o => (h.alloc o).c1
  have c3 : ∀ o, (w.alloc o).cell? ⟨g, 2, none⟩ = some (.int .i64 s.e) := fun o => (h.alloc o).c2
  have hpos := h.pos
  have hlen := h.len
  by_cases he : s.e = 0
  · have hb : (s.e != 0) = false := by simpa using he
    by_cases hi : s.i = L.length
    · have hn : nxt L s = no := by unfold nxt; rw [if_pos he, hi]; simp
      have hb2 : (L.length : Int) ≤ (s.i : Int) := by omega
      rw [hn]
      obtain ⟨n, hnn⟩ : ∃ n, L.length = n := ⟨_, rfl⟩
      rw [hnn] at c0 hb2
      clear he hi hn h h' hnn hpos hlen
      go_enter Tryd.func47, Tryd.ntmps47
      go_wp2_with fail
      go_quiet (fail)
      go_wp2_with (refine wp_st (by rfl) 65 _ _ (by rfl) w.heap.size 0 [.int .i64 0, .string ⟨#[]⟩, .int .i64 0] 65 (.agg #[.int .i64 0, .string ⟨#[]⟩, .int .i64 0]) [.int .i64 0, .string ⟨#[]⟩, .int .i64 0] (by rfl) (by rfl) (by rfl) (new_blk _ _ _) (by decide) (by kernel_rfl) (by rfl) ?_; intro w9 hw9 hf9)
      refine bodyPost_ret (res1 rfl _ _ w.heap.size [.int .i64 0, .string ⟨#[]⟩, .int .i64 0] _ (by rfl) (range_blk hw9) Tryd.underlying65 rfl (by kernel_rfl)) rfl ?_
      exact ⟨rfl, (((Fr.refl _ w).alloc _).drewN _).stored hf9 (.inr (Nat.le_refl _))⟩
    · have hlt : s.i < L.length := by omega
      obtain ⟨t, ht⟩ : ∃ t, nxt L s = t := ⟨_, rfl⟩
      have hb2 : ¬ (L.length : Int) ≤ (s.i : Int) := by omega
      have htl : L[s.i] = t := by rw [← ht]; unfold nxt; rw [if_pos he]; simp [List.getD, List.getElem?_eq_getElem hlt]
      rw [ht]
      obtain ⟨k, tx, m⟩ := t
      obtain ⟨p', cap', hv, hc1, hc2, hc⟩ := h.tok
      obtain ⟨b, off, hp, hc⟩ := hc (by omega)
      obtain ⟨hbl, t0, t1, t2⟩ := hc s.i hlt
      rw [htl] at t0 t1 t2
      simp at hv
      obtain ⟨rfl, rfl⟩ := hv
      subst hp
      have T0 : ∀ o, (w.alloc o).cell? ⟨b, off + s.i * 3, none⟩ = some (.int .i64 k) := fun o => (World.cell?_alloc_past _ _ _ hbl).trans t0
      have T1 : ∀ o, (w.alloc o).cell? ⟨b, off + s.i * 3 + 1, none⟩ = some (.string tx) := fun o => (World.cell?_alloc_past _ _ _ hbl).trans t1
      have T2 : ∀ o, (w.alloc o).cell? ⟨b, off + s.i * 3 + 2, none⟩ = some (.int .i64 m) := fun o => (World.cell?_alloc_past _ _ _ hbl).trans t2
      obtain ⟨n, hnn⟩ : ∃ n, L.length = n := ⟨_, rfl⟩
      obtain ⟨q, hq⟩ : ∃ q, s.i = q := ⟨_, rfl⟩
      rw [hq] at c1 hb2 T0 T1 T2 hlt
      rw [hnn] at c0 hb2 hlt hc1 hlen
      have i1 : (0 : Int) ≤ (q : Int) := by omega
      have i2 : (q : Int) < (n : Int) := by omega
      have hgl := blk_lt h.blk
      clear he hi ht h' hnn hpos hq hc t0 t1 t2 htl
      go_enter Tryd.func47, Tryd.ntmps47
      go_wp2_with fail
      go_quiet (fail)
      obtain ⟨W, hW⟩ : ∃ W, ((w.alloc (.cells #[.int .i64 0, .string ⟨#[]⟩, .int .i64 0] 65)).drewN nq) = W := ⟨_, rfl⟩
      have hB := new_blk w (.cells #[.int .i64 0, .string ⟨#[]⟩, .int .i64 0] 65) nq
      have hF : Fr (fun _ => False) w ((w.alloc (.cells #[.int .i64 0, .string ⟨#[]⟩, .int .i64 0] 65)).drewN nq) := ((Fr.refl _ w).alloc _).drewN _
      have hc : ∀ b o, b < w.heap.size → ((w.alloc (.cells #[.int .i64 0, .string ⟨#[]⟩, .int .i64 0] 65)).drewN nq).cell? ⟨b, o, none⟩ = w.cell? ⟨b, o, none⟩ := fun b o hb => World.cell?_of_block (hF.block b hb id)
      rw [hW] at hB hF hc ⊢
      have d0 : W.cell? ⟨g, 0, none⟩ = some (.slice (some ⟨b, off, none⟩) n cap) := by rw [hc _ _ hgl, ← c0 (.cells #[] 0), World.cell?_alloc_past _ _ _ hgl]
      have d1 : W.cell? ⟨g, 1, none⟩ = some (.int .i64 q) := by rw [hc _ _ hgl, ← c1 (.cells #[] 0), World.cell?_alloc_past _ _ _ hgl]
      have U0 : W.cell? ⟨b, off + q * 3, none⟩ = some (.int .i64 k) := by rw [hc _ _ hbl, ← T0 (.cells #[] 0), World.cell?_alloc_past _ _ _ hbl]
      have U1 : W.cell? ⟨b, off + q * 3 + 1, none⟩ = some (.string tx) := by rw [hc _ _ hbl, ← T1 (.cells #[] 0), World.cell?_alloc_past _ _ _ hbl]
      have U2 : W.cell? ⟨b, off + q * 3 + 2, none⟩ = some (.int .i64 m) := by rw [hc _ _ hbl, ← T2 (.cells #[] 0), World.cell?_alloc_past _ _ _ hbl]
      have r0 := cell_of_blk hB 0
      have r1 := cell_of_blk hB 1
      have r2 := cell_of_blk hB 2
      have f0 := free_of_blk hB 0
      have f1 := free_of_blk hB 1
      have f2 := free_of_blk hB 2
      simp at r0 r1 r2
      have HB : Hid (W.heap[w.heap.size]? = some (.cells #[.int .i64 0, .string ⟨#[]⟩, .int .i64 0] 65 (0, 0))) := hB
      have HF : Hid (Fr (fun _ => False) w W) := hF
      obtain ⟨M, hM⟩ : ∃ M, w.heap.size = M := ⟨_, rfl⟩
      have HM : Hid (w.heap.size = M) := hM
      rw [hM] at HB r0 r1 r2 f0 f1 f2 ⊢
      clear c0 c1 c3 T0 T1 T2 hB hF hc hW h hM
      go_wp2_with fail
      go_region
      all_goals (try go_wp2_with fail)
      have hq : ((W.setCells M 0 [.int .i64 k, .string tx, .int .i64 m]).drew).heap[M]? = some (.cells #[.int .i64 k, .string tx, .int .i64 m] 65 (0, 0)) := blk_sets [.int .i64 k, .string tx, .int .i64 m] 0 [.int .i64 0, .string ⟨#[]⟩, .int .i64 0] W HB.out (Nat.le_of_ble_eq_true rfl)
      refine bodyPost_ret (res1 rfl _ _ M [.int .i64 k, .string tx, .int .i64 m] _ (by rfl) (range_blk hq) Tryd.underlying65 rfl (by kernel_rfl)) rfl ?_
      refine ⟨rfl, ?_⟩
      have h9 : Fr (fun _ => False) w ((W.setCells M 0 [.int .i64 k, .string tx, .int .i64 m]).drew) := (HF.out.setCells (.inr (Nat.le_of_eq HM.out))).drew
      exact h9
  · have hb : (s.e != 0) = true := by simpa using he
    have hn : nxt L s = no := by unfold nxt; rw [if_neg he]
    rw [hn]
    clear he hn h h' hpos hlen
    go_enter Tryd.func47, Tryd.ntmps47
    go_wp2_with fail
    go_quiet (fail)
    go_wp2_with (refine wp_st (by rfl) 65 _ _ (by rfl) w.heap.size 0 [.int .i64 0, .string ⟨#[]⟩, .int .i64 0] 65 (.agg #[.int .i64 0, .string ⟨#[]⟩, .int .i64 0]) [.int .i64 0, .string ⟨#[]⟩, .int .i64 0] (by rfl) (by rfl) (by rfl) (new_blk _ _ _) (by decide) (by kernel_rfl) (by rfl) ?_; intro w9 hw9 hf9)
    refine bodyPost_ret (res1 rfl _ _ w.heap.size [.int .i64 0, .string ⟨#[]⟩, .int .i64 0] _ (by rfl) (range_blk hw9) Tryd.underlying65 rfl (by kernel_rfl)) rfl ?_
    exact ⟨rfl, (((Fr.refl _ w).alloc _).drewN _).stored hf9 (.inr (Nat.le_refl _))⟩
/-- For tokens that may be, a word and a mark are told apart by their texts. -/
theorem is_see {L : List Tk} {s : St} (hL : ∀ t, t ∈ L → tchk t = 0) {k : Int} {x : List UInt8} (hk : k = 1 ∧ nchk (txt x) = 0 ∨ k = 4 ∧ x ∈ mkl) : (decide ((nxt L s).k = k) && decide ((nxt L s).s.data.toList = x)) = see L x s := by
  unfold see
  by_cases h0 : (nxt L s).k = 0
  · rw [h0]
    rcases hk with ⟨rfl, _⟩ | ⟨rfl, _⟩ <;> rfl
  · have ht := hL _ (nxt_mem h0)
    by_cases hx : (nxt L s).s.data.toList = x
    · have hm : ∀ y ∈ mkl, nchk (txt y) ≠ 0 := by
        have : (mkl.all fun y => decide (nchk (txt y) ≠ 0)) = true := by kernel_rfl
        intro y hy
        simpa using List.all_eq_true.1 this y hy
      have hs : (nxt L s).s = txt x := by rw [← hx, txt_of]
      rcases hk with ⟨rfl, hn⟩ | ⟨rfl, hn⟩
      · by_cases h4 : (nxt L s).k = 4
        · have : x ∈ mkl := by
            unfold tchk at ht
            rw [if_neg (by omega), if_neg (by omega), if_neg (by omega), if_pos h4] at ht
            by_cases c : x ∈ mkl
            · exact c
            · rw [if_pos (.inr (by rw [hx]; exact c))] at ht
              cases ht
          exact absurd hn (hm x this)
        · simp [h4, hx]
      · by_cases h1 : (nxt L s).k = 1
        · unfold tchk at ht
          rw [if_pos h1] at ht
          split at ht
          · cases ht
          · rw [hs] at ht
            exact absurd ht (hm x hn)
        · simp [h1, hx]
    · simp [hx]
set_option maxHeartbeats 2000000 in
theorem is_any (w : World) (g : Nat) (V : Value) (L : List Tk) (s : St) (k : Int) (x : List UInt8) (hk : k = 1 ∧ nchk (txt x) = 0 ∨ k = 4 ∧ x ∈ mkl) (h : Env w g V L s) :
    Calls Tryd.prog 20 #[rp g, .int .i64 k, .string (txt x)] w fun e w' => e = .returned (.bool (see L x s)) ∧ Env w' g V L (tks L x s) ∧ Fr (fun i => i = g) w w' := by
  have HN := next_any w g V L s h
  have HE : Hid (Env w g V L s) := h
  have hp := h.pos
  have hl := h.len
  have hsee := is_see h.fin (s := s) hk
  have hs := sees_eq (nxt L s) x
  unfold tks
  obtain ⟨t, ht⟩ : ∃ t, nxt L s = t := ⟨_, rfl⟩
  have hlt : see L x s = true → s.i < L.length := fun hb => (see_lt hb).2
  rw [ht] at hsee HN hs
  obtain ⟨tk, tx, tn⟩ := t
  simp only at hsee hs
  have HN2 : Hid (Calls Tryd.prog 47 #[rp g] w fun e w' => e = .returned (.agg #[.int .i64 tk, .string tx, .int .i64 tn]) ∧ Fr (fun _ => False) w w') := HN
  obtain ⟨y, hy⟩ : ∃ y, txt x = y := ⟨_, rfl⟩
  rw [hy] at hs ⊢
  obtain ⟨b, hb⟩ : ∃ b, see L x s = b := ⟨_, rfl⟩
  rw [hb] at hsee hlt ⊢
  have hgw := blk_lt h.blk
  by_cases h1 : tk = k
  · have q1 : (tk != k) = false := by simpa using h1
    by_cases h2 : tx.data.toList = x
    · have q2 : (tx.toList == y.toList) = true := by rw [hs]; simpa using h2
      have hbt : b = true := by rw [← hsee]; simp [h1, h2]
      subst hbt
      rw [if_pos rfl]
      have HI : Hid (s.i < L.length) := hlt rfl
      have hq : (s.i : Int) ≤ 700 := by have := hlt rfl; omega
      clear HN hs hsee hlt h1 h2 hb hy hk h hp hl ht
      go_enter Tryd.func20, Tryd.ntmps20
      go_wp2_with (go_at_call 47; refine HN2.out.mono ?_; rintro e w1 ⟨rfl, hf1⟩; have hE : ∀ o, Env (w1.alloc o) g V L s := fun o => (HE.out.fr hf1).alloc o; have c1 := fun o => (hE o).c1; have f1 := fun o => (hE o).fz 1; have HE1 : Hid (∀ o, Env (w1.alloc o) g V L s) := hE; have hne1 : ¬ g = w1.heap.size := by { have := hf1.size; omega }; have hne2 : ¬ w1.heap.size = g := by { omega }; clear hE)
      go_ret
      exact ⟨rfl, (HE1.out _).step HI.out, ((hf1.mono (fun _ h _ => h.elim)).alloc _).trans (fr_put _ _ _ _)⟩
    · have q2 : (tx.toList == y.toList) = false := by rw [hs]; simpa using h2
      have hbt : b = false := by rw [← hsee]; simp [h2]
      subst hbt
      rw [if_neg (by decide)]
      clear HN hs hsee hlt h1 h2 hb hy hk h hp hl ht
      go_enter Tryd.func20, Tryd.ntmps20
      go_wp2_with (go_at_call 47; refine HN2.out.mono ?_; rintro e w1 ⟨rfl, hf1⟩)
      go_ret
      exact ⟨rfl, (HE.out.fr hf1).alloc _, (hf1.mono (fun _ h _ => h.elim)).alloc _⟩
  · have q1 : (tk != k) = true := by simpa using h1
    have hbt : b = false := by rw [← hsee]; simp [h1]
    subst hbt
    rw [if_neg (by decide)]
    clear HN hs hsee hlt h1 hb hy hk h hp hl ht
    go_enter Tryd.func20, Tryd.ntmps20
    go_wp2_with (go_at_call 47; refine HN2.out.mono ?_; rintro e w1 ⟨rfl, hf1⟩)
    go_ret
    exact ⟨rfl, (HE.out.fr hf1).alloc _, (hf1.mono (fun _ h _ => h.elim)).alloc _⟩
set_option maxHeartbeats 2000000 in
theorem want_any (w : World) (g : Nat) (V : Value) (L : List Tk) (s : St) (k : Int) (x : List UInt8) (hk : k = 1 ∧ nchk (txt x) = 0 ∨ k = 4 ∧ x ∈ mkl) (h : Env w g V L s) :
    Calls Tryd.prog 22 #[rp g, .int .i64 k, .string (txt x)] w fun e w' => e = .returned (.tuple #[]) ∧ Env w' g V L (wnt L x s) ∧ Fr (fun i => i = g) w w' := by
  have HN := is_any w g V L s k x hk h
  unfold tks at HN
  unfold wnt
  cases hb : see L x s
  · rw [hb] at HN
    rw [if_neg (by decide)] at HN ⊢
    have HN2 : Hid (Calls Tryd.prog 20 #[rp g, .int .i64 k, .string (txt x)] w fun e w' => e = .returned (.bool false) ∧ Env w' g V L s ∧ Fr (fun i => i = g) w w') := HN
    clear HN h hb hk
    generalize txt x = y at HN2 ⊢
    go_enter Tryd.func22, Tryd.ntmps22
    go_wp2_with (first
      | (go_at_call 20; refine HN2.out.mono ?_; rintro e w1 ⟨rfl, he1, hf1⟩)
      | (go_at_call 24; refine (wrong_any w1 g V L s he1).mono ?_; rintro e w2 ⟨rfl, he2, hf2⟩))
    go_end0
    exact ⟨rfl, he2, hf1.trans hf2⟩
  · rw [hb] at HN
    rw [if_pos rfl] at HN ⊢
    have HN2 : Hid (Calls Tryd.prog 20 #[rp g, .int .i64 k, .string (txt x)] w fun e w' => e = .returned (.bool true) ∧ Env w' g V L s.adv ∧ Fr (fun i => i = g) w w') := HN
    clear HN h hb hk
    generalize txt x = y at HN2 ⊢
    go_enter Tryd.func22, Tryd.ntmps22
    go_wp2_with (go_at_call 20; refine HN2.out.mono ?_; rintro e w1 ⟨rfl, he1, hf1⟩)
    go_end0
    exact ⟨rfl, he1, hf1⟩
set_option maxHeartbeats 2000000 in
theorem num_any (w : World) (g : Nat) (V : Value) (L : List Tk) (s : St) (h : Env w g V L s) :
    Calls Tryd.prog 49 #[rp g] w fun e w' => e = .returned (.int .i64 (num L s).1) ∧ Env w' g V L (num L s).2 ∧ Fr (fun i => i = g) w w' := by
  have HN := next_any w g V L s h
  have HE : Hid (Env w g V L s) := h
  have hp := h.pos
  have hl := h.len
  have hgw := blk_lt h.blk
  have hlt : (nxt L s).k ≠ 0 → s.i < L.length := fun h0 => (nxt_lt h0).2
  unfold num
  obtain ⟨t, ht⟩ : ∃ t, nxt L s = t := ⟨_, rfl⟩
  rw [ht] at HN hlt ⊢
  obtain ⟨tk, tx, tn⟩ := t
  have HN2 : Hid (Calls Tryd.prog 47 #[rp g] w fun e w' => e = .returned (.agg #[.int .i64 tk, .string tx, .int .i64 tn]) ∧ Fr (fun _ => False) w w') := HN
  simp only at hlt ⊢
  by_cases h2 : tk = 2
  · have q1 : (tk != 2) = false := by simpa using h2
    rw [if_pos h2]
    have HI : Hid (s.i < L.length) := hlt (by omega)
    have hq : (s.i : Int) ≤ 700 := by have := HI.out; omega
    clear HN hlt h2 h hp hl ht
    go_enter Tryd.func49, Tryd.ntmps49
    go_wp2_with (go_at_call 47; refine HN2.out.mono ?_; rintro e w1 ⟨rfl, hf1⟩; have hE : ∀ o, Env (w1.alloc o) g V L s := fun o => (HE.out.fr hf1).alloc o; have c1 := fun o => (hE o).c1; have f1 := fun o => (hE o).fz 1; have HE1 : Hid (∀ o, Env (w1.alloc o) g V L s) := hE; have hne1 : ¬ g = w1.heap.size := by { have := hf1.size; omega }; have hne2 : ¬ w1.heap.size = g := by { omega }; clear hE)
    go_ret
    exact ⟨rfl, (HE1.out _).step HI.out, ((hf1.mono (fun _ h _ => h.elim)).alloc _).trans (fr_put _ _ _ _)⟩
  · have q1 : (tk != 2) = true := by simpa using h2
    rw [if_neg h2]
    clear HN hlt h2 h hp hl ht
    go_enter Tryd.func49, Tryd.ntmps49
    go_wp2_with (first
      | (go_at_call 47; refine HN2.out.mono ?_; rintro e w1 ⟨rfl, hf1⟩)
      | (go_at_call 24; refine (wrong_any _ g V L s ((HE.out.fr hf1).alloc _)).mono ?_; rintro e w2 ⟨rfl, he2, hf2⟩))
    go_ret
    exact ⟨rfl, he2, ((hf1.mono (fun _ h _ => h.elim)).alloc _).trans hf2⟩
set_option maxHeartbeats 2000000 in
theorem ident_any (w : World) (g : Nat) (V : Value) (L : List Tk) (s : St) (h : Env w g V L s) :
    Calls Tryd.prog 21 #[rp g] w fun e w' => e = .returned (.string (nam L s).1) ∧ Env w' g V L (nam L s).2 ∧ Fr (fun i => i = g) w w' := by
  have HN := next_any w g V L s h
  have HE : Hid (Env w g V L s) := h
  have hp := h.pos
  have hl := h.len
  have hgw := blk_lt h.blk
  have hlt : (nxt L s).k ≠ 0 → s.i < L.length := fun h0 => (nxt_lt h0).2
  unfold nam
  obtain ⟨t, ht⟩ : ∃ t, nxt L s = t := ⟨_, rfl⟩
  rw [ht] at HN hlt ⊢
  obtain ⟨tk, tx, tn⟩ := t
  have HN2 : Hid (Calls Tryd.prog 47 #[rp g] w fun e w' => e = .returned (.agg #[.int .i64 tk, .string tx, .int .i64 tn]) ∧ Fr (fun _ => False) w w') := HN
  simp only at hlt ⊢
  by_cases h2 : tk = 1
  · have q1 : (tk != 1) = false := by simpa using h2
    cases hk : kpt tx
    · rw [if_pos ⟨h2, rfl⟩]
      have HK : Hid (∀ W, Calls Tryd.prog 30 #[.string tx] W fun e w' => e = .returned (.bool false) ∧ Below W.heap.size W w') := fun W => by
        have := keptWord_any tx W
        rw [hk] at this
        exact this
      have HI : Hid (s.i < L.length) := hlt (by omega)
      have hq : (s.i : Int) ≤ 700 := by have := HI.out; omega
      clear HN hlt h2 h hp hl ht hk
      go_enter Tryd.func21, Tryd.ntmps21
      go_wp2_with (first
        | (go_at_call 47; refine HN2.out.mono ?_; rintro e w1 ⟨rfl, hf1⟩; have HE1 : Hid (∀ o, Env (w1.alloc o) g V L s) := fun o => (HE.out.fr hf1).alloc o; have HF1 : Hid (∀ o, Fr (fun i => i = g) w (w1.alloc o)) := fun o => (hf1.mono (fun _ h _ => h.elim)).alloc o; have HG1 : Hid (g < w1.heap.size) := by { have := hf1.size; show g < _; omega }; clear hf1)
        | (go_at_call 30; refine (HK.out _).mono ?_; rintro e w2 ⟨rfl, hb2⟩; have hE : Env w2 g V L s := (HE1.out _).fr (Fr.of_below hb2); have c1 := hE.c1; have f1 := hE.fz 1; have HE2 : Hid (Env w2 g V L s) := hE; have HF2 : Hid (Fr (fun i => i = g) w w2) := (HF1.out _).trans (Fr.of_below hb2); have ct : w2.cell? ⟨w1.heap.size, 1, none⟩ = some (.string tx) := by { rw [hb2.cell (p := ⟨w1.heap.size, 1, none⟩) (by simp), cell_of_blk (heap_alloc_new _ _)]; rfl }; have hne1 : ¬ g = w1.heap.size := by { have := HG1.out; omega }; have hne2 : ¬ w1.heap.size = g := by { omega }; clear hE hb2))
      go_ret
      exact ⟨rfl, HE2.out.step HI.out, HF2.out.trans (fr_put _ _ _ _)⟩
    · rw [if_neg (by rintro ⟨_, c⟩; cases c)]
      have HK : Hid (∀ W, Calls Tryd.prog 30 #[.string tx] W fun e w' => e = .returned (.bool true) ∧ Below W.heap.size W w') := fun W => by
        have := keptWord_any tx W
        rw [hk] at this
        exact this
      clear HN hlt h2 h hp hl ht hk
      go_enter Tryd.func21, Tryd.ntmps21
      go_wp2_with (first
        | (go_at_call 47; refine HN2.out.mono ?_; rintro e w1 ⟨rfl, hf1⟩; have HE1 : Hid (∀ o, Env (w1.alloc o) g V L s) := fun o => (HE.out.fr hf1).alloc o; have HF1 : Hid (∀ o, Fr (fun i => i = g) w (w1.alloc o)) := fun o => (hf1.mono (fun _ h _ => h.elim)).alloc o; clear hf1)
        | (go_at_call 30; refine (HK.out _).mono ?_; rintro e w2 ⟨rfl, hb2⟩; have HE2 : Hid (Env w2 g V L s) := (HE1.out _).fr (Fr.of_below hb2); have HF2 : Hid (Fr (fun i => i = g) w w2) := (HF1.out _).trans (Fr.of_below hb2); clear hb2)
        | (go_at_call 24; refine (wrong_any _ g V L s HE2.out).mono ?_; rintro e w3 ⟨rfl, he3, hf3⟩))
      go_ret
      exact ⟨rfl, he3, HF2.out.trans hf3⟩
  · have q1 : (tk != 1) = true := by simpa using h2
    rw [if_neg (by rintro ⟨c, _⟩; exact h2 c)]
    clear HN hlt h2 h hp hl ht
    go_enter Tryd.func21, Tryd.ntmps21
    go_wp2_with (first
      | (go_at_call 47; refine HN2.out.mono ?_; rintro e w1 ⟨rfl, hf1⟩)
      | (go_at_call 24; refine (wrong_any _ g V L s ((HE.out.fr hf1).alloc _)).mono ?_; rintro e w2 ⟨rfl, he2, hf2⟩))
    go_ret
    exact ⟨rfl, he2, ((hf1.mono (fun _ h _ => h.elim)).alloc _).trans hf2⟩
end Go.Proofs.YtnlmkdncifijlaaDoor.Ref
