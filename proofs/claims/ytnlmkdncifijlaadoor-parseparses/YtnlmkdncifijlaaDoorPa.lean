/-
  What Parse tells of tokens.
-/
import Derived.Test.YtnlmkdncifijlaaDoorBo
import Derived.Test.YtnlmkdncifijlaaDoorK
namespace Go.Proofs.YtnlmkdncifijlaaDoor
open Go.ChangeShapes Go.WideShapes Go.ChangeAt Go.RowKit Go.Maps
set_option linter.unusedVariables false
set_option linter.unusedSimpArgs false
set_option maxRecDepth 20000
theorem tck_hit : ∀ (L : List Tk) (n j : Nat) (hj : j < L.length), (∀ i (hi : i < j), tchk (L[i]'(by omega)) = 0) → tchk L[j] ≠ 0 → tck L n = some (n + j, tchk L[j])
  | t :: r, n, 0, _, _, h => by simp only [List.getElem_cons_zero] at h ⊢; rw [tck, if_neg h]; simp
  | t :: r, n, j + 1, hj, h0, h => by
    have h1 : tchk t = 0 := h0 0 (by omega)
    rw [tck, if_pos h1, tck_hit r (n + 1) j (by simpa using hj) (fun i hi => h0 (i + 1) (by omega)) h]
    simp only [List.getElem_cons_succ, Option.some.injEq, Prod.mk.injEq, and_true]
    omega
theorem tck_none : ∀ (L : List Tk) (n : Nat), (∀ t, t ∈ L → tchk t = 0) → tck L n = none
  | [], n, _ => rfl
  | t :: r, n, h => by rw [tck, if_pos (h t (by simp)), tck_none r (n + 1) fun x hx => h x (by simp [hx])]
theorem tchk_num {t : Tk} (h : tchk t = 0) (hk : t.k = 2) : 0 ≤ t.n ∧ t.n ≤ 1125899906842624 := by
  unfold tchk at h
  rw [if_neg (by omega), if_pos hk] at h
  split at h
  · omega
  · split at h
    · omega
    · omega
theorem tchk_size {t : Tk} (h : tchk t = 0) : t.s.size ≤ 3000 := by
  have hs : t.s.data.toList.length = t.s.size := by simp
  unfold tchk at h
  split at h
  · split at h
    · omega
    · unfold nchk at h
      split at h
      · omega
      · omega
  · split at h
    · split at h
      · omega
      · rename_i c
        have : t.s.data.toList = [] := by simpa using c
        rw [this] at hs
        simp at hs
        omega
    · split at h
      · split at h
        · omega
        · split at h
          · omega
          · omega
      · split at h
        · split at h
          · omega
          · rename_i c
            have hm : t.s.data.toList ∈ mkl := by
              by_cases d : t.s.data.toList ∈ mkl
              · exact d
              · exact absurd (.inr d) c
            have h2 : ∀ x ∈ mkl, x.length ≤ 2 := by decide
            have := h2 _ hm
            omega
        · omega
/-- The tables that Parse reads. -/
structure Tbs (w : World) : Prop where
  mr : Marks w
  kp : Tab w 0 kpl
  rl : Tab w 2 rll
  cm : Cmt w
theorem Tbs.below {w w' : World} (h : Tbs w) (b : Below w.heap.size w w') : Tbs w' := by
  have hc : ∀ (g o : Nat), g < w.heap.size → w'.cell? ⟨g, o, none⟩ = w.cell? ⟨g, o, none⟩ := fun g o hg => b.cell (p := ⟨g, o, none⟩) hg
  exact ⟨h.mr.below b, ⟨Nat.lt_of_lt_of_le h.kp.1 b.size, fun i hi => (hc _ _ h.kp.1).trans (h.kp.2 i hi)⟩, ⟨Nat.lt_of_lt_of_le h.rl.1 b.size, fun i hi => (hc _ _ h.rl.1).trans (h.rl.2 i hi)⟩, ⟨Nat.lt_of_lt_of_le h.cm.1 b.size, fun i hi => ⟨(hc _ _ h.cm.1).trans (h.cm.2 i hi).1, (hc _ _ h.cm.1).trans (h.cm.2 i hi).2.1, (hc _ _ h.cm.1).trans (h.cm.2 i hi).2.2⟩⟩⟩
/-- What Parse leaves. -/
def APost (w : World) (a : Bk × Nat × Int) (e : Ending) (w' : World) : Prop :=
  ∃ p1 c1 p2 c2, e = .returned (.tuple #[.agg #[.slice p1 a.1.t.length c1, .slice p2 a.1.r.length c2], .int .i64 a.2.1, .int .i64 a.2.2]) ∧ HoldsL w' (fun i => w.heap.size ≤ i) (encB a.1) [.slice p1 a.1.t.length c1, .slice p2 a.1.r.length c2] ∧ Below w.heap.size w w'
theorem empty_b (w : World) (S : Nat → Prop) : HoldsL w S (encB ⟨[], []⟩) [.slice none 0 0, .slice none 0 0] := .cons (Row.nil _ _ _ _).holds (.cons (Row.nil _ _ _ _).holds (.nil _ _))
theorem ret3_loc {P : Program} {fn : Func} {p a' b' : Tmp} {ty : TypeId} {a : Act} {w : World} {Q : Ending → World → Prop} (R : Nat) (cs : List Value) (T : TypeId) (d : TypeDesc) (u v : Value) (hb : w.heap[R]? = some (.cells cs.toArray T (0, 0))) (h : fn.results = #[.cell p ty, .tmp a', .tmp b']) (hd : a.defers = [])
    (hp : a.tmps.getD p undef = .pointer (some ⟨R, 0, none⟩)) (hu : P.underlying ty = some d) (hr : d.isRow = true) (hi : (P.info? ty).map (·.size) = some cs.length) (h1 : a.tmps.getD a' undef = u) (h2 : a.tmps.getD b' undef = v) (hq : Q (.returned (.tuple #[.agg cs.toArray, u, v])) w) : bodyPost P fn Q .ret a w := by
  subst h1 h2
  exact bodyPost_ret (res3 h a.tmps w R cs d hp (range_blk hb) hu hr hi) hd hq
set_option maxHeartbeats 8000000 in
theorem parse_any (w : World) (V : Value) (L : List Tk) (hT : TokensAt w V L) (hlow : ∀ b, V.ownBlock = some b → b < w.heap.size) (hB : Tbs w) : Calls Tryd.prog 6 #[V] w (APost w (prs L)) := by
  obtain ⟨p, cap, rfl, hcap, hmx, hpc⟩ := hT
  have HT : Hid (TokensAt w (.slice p L.length cap) L) := ⟨p, cap, rfl, hcap, hmx, hpc⟩
  have HPC : Hid (0 < L.length → ∃ g off, p = some ⟨g, off, none⟩ ∧ ∀ j (hj : j < L.length), g < w.heap.size ∧ w.cell? ⟨g, off + j * 3, none⟩ = some (.int .i64 L[j].k) ∧ w.cell? ⟨g, off + j * 3 + 1, none⟩ = some (.string L[j].s) ∧ w.cell? ⟨g, off + j * 3 + 2, none⟩ = some (.int .i64 L[j].n)) := hpc
  have HB : Hid (Tbs w) := hB
  have HLOW : Hid (∀ b, (Value.slice p L.length cap).ownBlock = some b → b < w.heap.size) := hlow
  obtain ⟨A, hA⟩ : ∃ A, prs L = A := ⟨_, rfl⟩
  rw [hA]
  have HA : Hid (prs L = A) := hA
  clear hpc hB hlow hA
  by_cases h7 : 700 < L.length
  · have hb : (700 : Int) < (L.length : Int) := by omega
    have HQ : Hid ((⟨[], []⟩, 0, 8) = A) := by have := HA.out; unfold prs at this; rw [if_pos h7] at this; exact this
    clear h7
    go_enter Tryd.func6, Tryd.ntmps6
    go_wp2_with fail
    refine ret3_loc w.heap.size [.slice none 0 0, .slice none 0 0] 26 _ (.int .i64 0) (.int .i64 8) (heap_alloc_new _ _) rfl rfl (by rfl) Tryd.underlying26 rfl (by kernel_rfl) (by rfl) (by rfl) ?_
    rw [← HQ.out]
    exact ⟨none, 0, none, 0, rfl, empty_b _ _, (Below.refl _ _).alloc (Nat.le_refl _) _⟩
  · have hb : ¬ (700 : Int) < (L.length : Int) := by omega
    have H7 : Hid (L.length ≤ 700) := by show L.length ≤ 700; omega
    have HP2 : Hid ((match tck L 0 with | some (i, e) => ((⟨[], []⟩ : Bk), i, e) | none => if (bok L).2.e = 0 then ((bok L).1, 0, 0) else (⟨[], []⟩, (bok L).2.i, (bok L).2.e)) = A) := by have := HA.out; unfold prs at this; rw [if_neg h7] at this; exact this
    obtain ⟨n, hn⟩ : ∃ n, L.length = n := ⟨_, rfl⟩
    have HN : Hid (L.length = n) := hn
    rw [hn] at hb HT HLOW hcap ⊢
    clear h7 hn HA
    go_enter Tryd.func6, Tryd.ntmps6
    go_wp2_with fail
    obtain ⟨R, hR⟩ : ∃ R, w.heap.size = R := ⟨_, rfl⟩
    have HR : Hid (w.heap.size = R) := hR
    have HW0 : Hid ((w.alloc (.cells #[.slice none 0 0, .slice none 0 0] 26)).heap[w.heap.size]? = some (.cells #[.slice none 0 0, .slice none 0 0] 26 (0, 0))) := heap_alloc_new _ _
    have HF0 : Hid (Fr (fun _ => False) w (w.alloc (.cells #[.slice none 0 0, .slice none 0 0] 26))) := (Fr.refl _ _).alloc _
    rw [hR] at HW0 ⊢
    clear hR
    go_loopw [16] (fun i wr => ∃ k : Nat, k ≤ n ∧ i = .int .i64 (k : Nat) ∧ (∀ (j : Nat) (hj : j < L.length), j < k → tchk L[j] = 0) ∧ Fr (fun _ => False) w wr ∧ wr.heap[R]? = some (.cells #[.slice none 0 0, .slice none 0 0] 26 (0, 0))) (fun i _ => n + 1 - (intOf i).toNat)
    case atStart => exact ⟨0, by omega, rfl, fun j hj h => by omega, HF0.out, HW0.out⟩
    case round =>
      obtain ⟨k, hk, rfl, hf, hB2, hRb⟩ := hrel
      have HF : Hid (∀ (j : Nat) (hj : j < L.length), j < k → tchk L[j] = 0) := hf
      have HFR : Hid (Fr (fun _ => False) w wr) := hB2
      have HRB : Hid (wr.heap[R]? = some (.cells #[.slice none 0 0, .slice none 0 0] 26 (0, 0))) := hRb
      clear hf hRb HF0 HW0
      by_cases hlt : k < n
      · have hkd : k < L.length := by have := HN.out; omega
        obtain ⟨g, off, hg, hc⟩ := HPC.out (by omega)
        obtain ⟨hgs, c0, c1, c2⟩ := hc k hkd
        subst hg
        have hit := tck_hit L 0 k hkd
        obtain ⟨d, hdk⟩ : ∃ d, L[k] = d := ⟨_, rfl⟩
        rw [hdk] at c0 c1 c2 hit
        have b0 : wr.cell? ⟨g, off + k * 3, none⟩ = some (.int .i64 d.k) := (World.cell?_of_block (a := ⟨g, off + k * 3, none⟩) (hB2.block g hgs id)).trans c0
        have b1 : wr.cell? ⟨g, off + k * 3 + 1, none⟩ = some (.string d.s) := (World.cell?_of_block (a := ⟨g, off + k * 3 + 1, none⟩) (hB2.block g hgs id)).trans c1
        have b2 : wr.cell? ⟨g, off + k * 3 + 2, none⟩ = some (.int .i64 d.n) := (World.cell?_of_block (a := ⟨g, off + k * 3 + 2, none⟩) (hB2.block g hgs id)).trans c2
        have i1 : (0 : Int) ≤ (k : Int) := by omega
        have i2 : (k : Int) < (n : Int) := by omega
        have hne : wr.heap.size ≠ g := by have := hB2.size; omega
        have HMR : Hid (∀ o, Marks (wr.alloc o)) := fun o => (HB.out.mr.below hB2.below).alloc o
        obtain ⟨e0, he0⟩ : ∃ e0, tchk d = e0 := ⟨_, rfl⟩
        have HCK : Hid (∀ W, Marks W → Calls Tryd.prog 17 #[.agg #[.int .i64 d.k, .string d.s, .int .i64 d.n]] W fun e w' => e = .returned (.int .i64 e0) ∧ Fr (fun _ => False) W w') := fun W hW => by rw [← he0]; exact (check_any d W hW).mono fun e w' h => ⟨h.1, Fr.of_below h.2⟩
        have hRl := blk_lt HRB.out
        by_cases hr0 : e0 = 0
        · subst hr0
          have HNX : Hid (∀ (j : Nat) (hj : j < L.length), j < k + 1 → tchk L[j] = 0) := fun j hj h => by
            by_cases c : j = k
            · subst c; rw [hdk]; exact he0
            · exact HF.out j hj (by omega)
          clear hc hdk c0 c1 c2 hgs hB2 hkd he0 hit hRl
          go_wp2_with (go_at_call 17; refine (HCK.out _ (HMR.out _)).mono ?_; rintro e w2 ⟨rfl, hf2⟩; have HF2 : Hid (Fr (fun _ => False) w w2) := (HFR.out.alloc _).trans hf2; have HR2 : Hid (w2.heap[R]? = some (.cells #[.slice none 0 0, .slice none 0 0] 26 (0, 0))) := (hf2.block R (by { have := blk_lt HRB.out; simp; omega }) id).trans ((Below.heap_alloc _ _ _ (blk_lt HRB.out)).trans HRB.out); clear hf2)
          go_roundw
          case rel => exact ⟨k + 1, by omega, by go_num, HNX.out, HF2.out, HR2.out⟩
          case measure => simp [intOf]; omega
        · have hrd : (e0 != 0) = true := by simpa using hr0
          have HQ : Hid ((⟨[], []⟩, k, e0) = A) := by
            show (⟨[], []⟩, k, e0) = A
            have h1 := HP2.out
            rw [hit (fun i hi => HF.out i (by omega) hi) (by rw [he0]; exact hr0), he0] at h1
            simpa using h1
          clear hc hdk c0 c1 c2 hgs hB2 hkd he0 hit hRl
          go_wp2_with (first
            | (go_at_call 17; refine (HCK.out _ (HMR.out _)).mono ?_; rintro e w2 ⟨rfl, hf2⟩; have HF2 : Hid (Fr (fun _ => False) w w2) := (HFR.out.alloc _).trans hf2; have HR2 : Hid (w2.heap[R]? = some (.cells #[.slice none 0 0, .slice none 0 0] 26 (0, 0))) := (hf2.block R (by { have := blk_lt HRB.out; simp; omega }) id).trans ((Below.heap_alloc _ _ _ (blk_lt HRB.out)).trans HRB.out); clear hf2)
            | (refine wp_st (by rfl) 26 _ _ (by rfl) R 0 [.slice none 0 0, .slice none 0 0] 26 (.agg #[.slice none 0 0, .slice none 0 0]) [.slice none 0 0, .slice none 0 0] (by rfl) (by rfl) (by rfl) HR2.out (Nat.le_of_ble_eq_true rfl) (by kernel_rfl) (by rfl) ?_; intro w9 hw9 hf9; have HW9 : Hid (w9.heap[R]? = some (.cells #[.slice none 0 0, .slice none 0 0] 26 (0, 0)) ∧ Fr (fun _ => False) w w9) := ⟨hw9, HF2.out.stored hf9 (.inr (Nat.le_of_eq HR.out))⟩; clear hw9 hf9))
          refine ret3_loc R [.slice none 0 0, .slice none 0 0] 26 _ (.int .i64 k) (.int .i64 e0) HW9.out.1 rfl rfl (by rfl) Tryd.underlying26 rfl (by kernel_rfl) (by rfl) (by rfl) ?_
          rw [← HQ.out]
          exact ⟨none, 0, none, 0, rfl, empty_b _ _, HW9.out.2.below⟩
      · obtain rfl : k = n := by omega
        have hall : ∀ t, t ∈ L → tchk t = 0 := fun t ht => by
          obtain ⟨j, hj, rfl⟩ := List.getElem_of_mem ht
          exact HF.out j hj (by have := HN.out; omega)
        have hP := HP2.out
        rw [tck_none L 0 hall] at hP
        have HP3 : Hid ((if (bok L).2.e = 0 then ((bok L).1, 0, 0) else (⟨[], []⟩, (bok L).2.i, (bok L).2.e)) = A) := hP
        have hTb := HB.out.below hB2.below
        have HEN : Hid (Env (wr.alloc (.cells #[.slice p k cap, .int .i64 0, .int .i64 0, .int .i64 0] 68)) wr.heap.size (.slice p k cap) L ⟨0, 0, 0⟩) := by
          have hw1 : Tbs (wr.alloc (.cells #[.slice p k cap, .int .i64 0, .int .i64 0, .int .i64 0] 68)) := hTb.below (below_new _ _)
          have ht := (HT.out.below hB2.below).below (below_new wr (.cells #[.slice p k cap, .int .i64 0, .int .i64 0, .int .i64 0] 68))
          exact ⟨heap_alloc_new _ _, ht, fun b hb => Nat.lt_of_lt_of_le (HLOW.out b hb) hB2.size, H7.out, Nat.zero_le _, Nat.zero_le _, hw1.kp, hw1.rl, hw1.cm, ⟨hTb.kp.1, hTb.rl.1, hTb.cm.1⟩, fun t ht hk => tchk_num (hall t ht) hk, fun t ht => tchk_size (hall t ht)⟩
        have HBK := book_any _ _ _ L HEN.out
        obtain ⟨b, hb2⟩ : ∃ b, (bok L).1 = b := ⟨_, rfl⟩
        obtain ⟨s9, hs9⟩ : ∃ s9, (bok L).2 = s9 := ⟨_, rfl⟩
        rw [hb2, hs9] at HBK HP3
        have HBK2 : Hid (Calls Tryd.prog 18 #[rp wr.heap.size] (wr.alloc (.cells #[.slice p k cap, .int .i64 0, .int .i64 0, .int .i64 0] 68)) (BPost (wr.alloc (.cells #[.slice p k cap, .int .i64 0, .int .i64 0, .int .i64 0] 68)) wr.heap.size (.slice p k cap) L b s9)) := HBK
        have HRL : Hid (R < wr.heap.size) := blk_lt HRB.out
        clear hall hP hTb hB2 HBK hb2 hs9 HEN
        by_cases he9 : s9.e = 0
        · have hw9 : (s9.e != 0) = false := by simpa using he9
          have HQ : Hid ((b, 0, 0) = A) := by have := HP3.out; rw [if_pos he9] at this; exact this
          clear he9
          go_wp2_with (first
            | (go_at_call 18; refine HBK2.out.mono ?_; rintro e w2 ⟨q1, d1, q2, d2, rfl, hh2, he2, hf2⟩; have HF2 : Hid (Fr (fun _ => False) w w2) := (HFR.out.alloc _).then hf2 (fun i hi => .inr (by { have h1 : i = wr.heap.size := hi; have := HFR.out.size; omega })); have HR2 : Hid (∀ o, (w2.alloc o).heap[R]? = some (.cells #[.slice none 0 0, .slice none 0 0] 26 (0, 0))) := fun o => (Below.heap_alloc _ _ _ (by { have h1 := hf2.size; have := HRL.out; simp at h1; omega })).trans ((hf2.block R (by { have := HRL.out; simp; omega }) (by { show ¬ R = wr.heap.size; have := HRL.out; omega })).trans ((Below.heap_alloc _ _ _ HRL.out).trans HRB.out)); have HH2 : Hid (HoldsL w2 (fun i => wr.heap.size + 1 ≤ i) (encB b) [.slice q1 b.t.length d1, .slice q2 b.r.length d2]) := hh2.low (by simp); have c1a : ∀ o, (w2.alloc o).cell? ⟨wr.heap.size, 1, none⟩ = some (.int .i64 s9.i) := fun o => (he2.alloc o).c1; have c3a : ∀ o, (w2.alloc o).cell? ⟨wr.heap.size, 3, none⟩ = some (.int .i64 s9.e) := fun o => (he2.alloc o).c3; clear hh2 he2 hf2)
            | (refine wp_st (by rfl) 26 _ _ (by rfl) R 0 [.slice none 0 0, .slice none 0 0] 26 (.agg #[.slice q1 b.t.length d1, .slice q2 b.r.length d2]) [.slice q1 b.t.length d1, .slice q2 b.r.length d2] (by rfl) (by rfl) (by rfl) (HR2.out _) (Nat.le_of_ble_eq_true rfl) (by kernel_rfl) (by rfl) ?_; intro w9 hw9' hf9; have HW9 : Hid (w9.heap[R]? = some (.cells #[.slice q1 b.t.length d1, .slice q2 b.r.length d2] 26 (0, 0)) ∧ Fr (fun _ => False) w w9 ∧ HoldsL w9 (fun i => w.heap.size ≤ i) (encB b) [.slice q1 b.t.length d1, .slice q2 b.r.length d2]) := ⟨hw9', (HF2.out.alloc _).stored hf9 (.inr (Nat.le_of_eq HR.out)), (HH2.out.on ((Fr.refl _ _).alloc _)).mono (fun i hi hl => ⟨by { show w.heap.size ≤ i; have h1 : wr.heap.size + 1 ≤ i := hi; have := HFR.out.size; omega }, hf9.block i hl (by { show ¬ i = R; have h1 : wr.heap.size + 1 ≤ i := hi; have := HRL.out; omega })⟩)⟩; clear hw9' hf9))
          refine ret3_loc R [.slice q1 b.t.length d1, .slice q2 b.r.length d2] 26 _ (.int .i64 0) (.int .i64 0) HW9.out.1 rfl rfl (by rfl) Tryd.underlying26 rfl (by kernel_rfl) (by rfl) (by rfl) ?_
          rw [← HQ.out]
          exact ⟨q1, d1, q2, d2, rfl, HW9.out.2.2, HW9.out.2.1.below⟩
        · have hw9 : (s9.e != 0) = true := by simpa using he9
          have HQ : Hid ((⟨[], []⟩, s9.i, s9.e) = A) := by have := HP3.out; rw [if_neg he9] at this; exact this
          clear he9
          go_wp2_with (first
            | (go_at_call 18; refine HBK2.out.mono ?_; rintro e w2 ⟨q1, d1, q2, d2, rfl, hh2, he2, hf2⟩; have HF2 : Hid (Fr (fun _ => False) w w2) := (HFR.out.alloc _).then hf2 (fun i hi => .inr (by { have h1 : i = wr.heap.size := hi; have := HFR.out.size; omega })); have HR2 : Hid (∀ o, (w2.alloc o).heap[R]? = some (.cells #[.slice none 0 0, .slice none 0 0] 26 (0, 0))) := fun o => (Below.heap_alloc _ _ _ (by { have h1 := hf2.size; have := HRL.out; simp at h1; omega })).trans ((hf2.block R (by { have := HRL.out; simp; omega }) (by { show ¬ R = wr.heap.size; have := HRL.out; omega })).trans ((Below.heap_alloc _ _ _ HRL.out).trans HRB.out)); have HH2 : Hid (HoldsL w2 (fun i => wr.heap.size + 1 ≤ i) (encB b) [.slice q1 b.t.length d1, .slice q2 b.r.length d2]) := hh2.low (by simp); have c1a : ∀ o, (w2.alloc o).cell? ⟨wr.heap.size, 1, none⟩ = some (.int .i64 s9.i) := fun o => (he2.alloc o).c1; have c3a : ∀ o, (w2.alloc o).cell? ⟨wr.heap.size, 3, none⟩ = some (.int .i64 s9.e) := fun o => (he2.alloc o).c3; clear hh2 he2 hf2))
          obtain ⟨wz, hwz⟩ : ∃ wz, w2.alloc (.cells #[.slice q1 b.t.length d1, .slice q2 b.r.length d2] 26) = wz := ⟨_, rfl⟩
          have z1 := c1a (.cells #[.slice q1 b.t.length d1, .slice q2 b.r.length d2] 26)
          have z3 := c3a (.cells #[.slice q1 b.t.length d1, .slice q2 b.r.length d2] 26)
          have zr := HR2.out (.cells #[.slice q1 b.t.length d1, .slice q2 b.r.length d2] 26)
          have HFZ : Hid (Fr (fun _ => False) w (w2.alloc (.cells #[.slice q1 b.t.length d1, .slice q2 b.r.length d2] 26))) := HF2.out.alloc _
          rw [hwz] at z1 z3 zr HFZ
          rw [hwz]
          have r0 := cell_of_blk zr 0
          have r1 := cell_of_blk zr 1
          have f0 := free_of_blk zr 0
          have f1 := free_of_blk zr 1
          simp at r0 r1
          have HZR : Hid (wz.heap[R]? = some (.cells #[.slice none 0 0, .slice none 0 0] 26 (0, 0))) := zr
          have hne1 : ¬ R = wr.heap.size := by have := HRL.out; omega
          have hne2 : ¬ wr.heap.size = R := by omega
          clear c1a c3a hwz zr
          go_region
          all_goals (try go_wp2_with fail)
          all_goals
            have hq : ((wz.setCells R 0 [.slice none 0 0, .slice none 0 0]).drew).heap[R]? = some (.cells #[.slice none 0 0, .slice none 0 0] 26 (0, 0)) := blk_sets [.slice none 0 0, .slice none 0 0] 0 [.slice none 0 0, .slice none 0 0] wz HZR.out (Nat.le_of_ble_eq_true rfl)
            have hfz : Fr (fun _ => False) w ((wz.setCells R 0 [.slice none 0 0, .slice none 0 0]).drew) := (HFZ.out.setCells (.inr (Nat.le_of_eq HR.out))).drew
            refine ret3_loc R [.slice none 0 0, .slice none 0 0] 26 _ (.int .i64 s9.i) (.int .i64 s9.e) hq rfl rfl (by rfl) Tryd.underlying26 rfl (by kernel_rfl) (by rfl) (by rfl) ?_
            rw [← HQ.out]
            exact ⟨none, 0, none, 0, rfl, empty_b _ _, hfz.below⟩
end Go.Proofs.YtnlmkdncifijlaaDoor
