/-
  The reference reads a book.
-/
import Derived.Test.YtnlmkdncifijlaaDoorYb
import Derived.Deep.LoopGhost
namespace Go.Proofs.YtnlmkdncifijlaaDoor.Ref
open Go.ChangeShapes Go.WideShapes Go.ChangeAt Go.RowKit Go.Maps
set_option linter.unusedVariables false
set_option linter.unusedSimpArgs false
set_option maxRecDepth 20000
theorem Bst.outB {w0 w w' : World} {g R U : Nat} {V : Value} {L : List Tk} {s : St} {col : Nat → Nat} {b : Bk} {tv rv : Value} (h : Bst w0 w g V L s R U col b tv rv) (hf : Fr (fun i => i = R) w w') : HoldsL w' (fun i => w0.heap.size ≤ i) (encB b) [tv, rv] := by
  have hlo := h.lo
  have key : ∀ {j i : Nat}, Cq (g + 1) col j i → i < w.heap.size → w0.heap.size ≤ i ∧ w'.heap[i]? = w.heap[i]? := fun hi hl => ⟨by have := hi.1; omega, hf.block _ hl (by have := hi.1; show ¬ _ = R; omega)⟩
  exact .cons (h.r1.holds.mono fun i hi hl => key hi hl) (.cons (h.r2.holds.mono fun i hi hl => key hi hl) (.nil _ _))
theorem own_first {w : World} {S : Nat → Prop} {e z : Nat} {v : Value} {l : List (List Dat)} {N : Nat} (h : Row w S e z v l) (hN : w.heap.size = N) : ∀ k, v.ownBlock = some k → k < N := fun k hk => by
  obtain ⟨xs, h1, _⟩ := h
  rw [← hN]
  exact (own_block_some h1 hk).2
set_option maxHeartbeats 32000000 in
theorem parseOf_any (w : World) (V0 : Value) (L : List Tk) (hT : TokensAt w V0 L) (hlow : 0 < L.length → ∀ b, V0.ownBlock = some b → b < w.heap.size) (hsz : ∀ t, t ∈ L → (t.s.size : Int) ≤ 9223372036854775807) : Calls Tryd.prog 7 #[V0] w (APost w (prs' L)) := by
  obtain ⟨p, cap, rfl, hcap, hmx, hpc⟩ := hT
  have HT : Hid (TokensAt w (.slice p L.length cap) L) := ⟨p, cap, rfl, hcap, hmx, hpc⟩
  have HPC : Hid (0 < L.length → ∃ g off, p = some ⟨g, off, none⟩ ∧ ∀ j (hj : j < L.length), g < w.heap.size ∧ w.cell? ⟨g, off + j * 3, none⟩ = some (.int .i64 L[j].k) ∧ w.cell? ⟨g, off + j * 3 + 1, none⟩ = some (.string L[j].s) ∧ w.cell? ⟨g, off + j * 3 + 2, none⟩ = some (.int .i64 L[j].n)) := hpc
  have HSZ0 : Hid (∀ t, t ∈ L → (t.s.size : Int) ≤ 9223372036854775807) := hsz
  have HLOW : Hid (0 < L.length → ∀ b, (Value.slice p L.length cap).ownBlock = some b → b < w.heap.size) := hlow
  obtain ⟨A, hA⟩ : ∃ A, prs' L = A := ⟨_, rfl⟩
  rw [hA]
  have HA : Hid (prs' L = A) := hA
  clear hpc hlow hA hsz
  by_cases h7 : 700 < L.length
  · have hb : (700 : Int) < (L.length : Int) := by omega
    have HQ : Hid ((⟨[], []⟩, 0, 8) = A) := by have := HA.out; unfold prs' at this; rw [if_pos h7] at this; exact this
    clear h7
    go_enter Tryd.func7, Tryd.ntmps7
    go_wp2_with fail
    refine ret3_loc w.heap.size [.slice none 0 0, .slice none 0 0] 26 _ (.int .i64 0) (.int .i64 8) (heap_alloc_new _ _) rfl rfl (by rfl) Tryd.underlying26 rfl (by kernel_rfl) (by rfl) (by rfl) ?_
    rw [← HQ.out]
    exact ⟨none, 0, none, 0, rfl, empty_b _ _, (Below.refl _ _).alloc (Nat.le_refl _) _⟩
  · have hb : ¬ (700 : Int) < (L.length : Int) := by omega
    have HLEN : Hid (L.length ≤ 700) := by show L.length ≤ 700; omega
    have HP2 : Hid ((match tck L 0 with | some (i, e) => ((⟨[], []⟩ : Bk), i, e) | none => if (bok' L).2.e = 0 then ((bok' L).1, 0, 0) else (⟨[], []⟩, (bok' L).2.i, (bok' L).2.e)) = A) := by have := HA.out; unfold prs' at this; rw [if_neg h7] at this; exact this
    obtain ⟨n, hn⟩ : ∃ n, L.length = n := ⟨_, rfl⟩
    have HN : Hid (L.length = n) := hn
    rw [hn] at hb HT HLOW hcap ⊢
    clear h7 hn HA
    go_enter Tryd.func7, Tryd.ntmps7
    go_wp2_with fail
    obtain ⟨R, hR⟩ : ∃ R, w.heap.size = R := ⟨_, rfl⟩
    have HR : Hid (w.heap.size = R) := hR
    have HW0 : Hid ((w.alloc (.cells #[.slice none 0 0, .slice none 0 0] 26)).heap[w.heap.size]? = some (.cells #[.slice none 0 0, .slice none 0 0] 26 (0, 0))) := heap_alloc_new _ _
    have HF0 : Hid (Fr (fun _ => False) w (w.alloc (.cells #[.slice none 0 0, .slice none 0 0] 26))) := (Fr.refl _ _).alloc _
    rw [hR] at HW0 ⊢
    clear hR
    go_loopw [5, 6] (fun i _ wr => ∃ k : Nat, k ≤ n ∧ i = .int .i64 (k : Nat) ∧ (∀ (j : Nat) (hj : j < L.length), j < k → tchk L[j] = 0) ∧ Fr (fun _ => False) w wr ∧ wr.heap[R]? = some (.cells #[.slice none 0 0, .slice none 0 0] 26 (0, 0))) (fun i _ _ => n + 1 - (intOf i).toNat)
    case atStart => exact ⟨0, by omega, rfl, fun j hj h => by omega, HF0.out, HW0.out⟩
    case round =>
      obtain ⟨k, hk, rfl, hf, hB2, hRb⟩ := hrel
      have HF : Hid (∀ (j : Nat) (hj : j < L.length), j < k → tchk L[j] = 0) := hf
      have HFR : Hid (Fr (fun _ => False) w wr) := hB2
      have HRB : Hid (wr.heap[R]? = some (.cells #[.slice none 0 0, .slice none 0 0] 26 (0, 0))) := hRb
      clear hf hRb HF0 HW0
      by_cases hlt : k < n
      · have hkd : k < L.length := by have := HN.out; omega
        obtain ⟨g, off, hg, hc⟩ := HPC.out (by omega)
        obtain ⟨hgs, c0, c1, c2⟩ := hc k hkd
        subst hg
        have hit := tck_hit L 0 k hkd
        have hsz := HSZ0.out L[k] (List.getElem_mem hkd)
        obtain ⟨d, hdk⟩ : ∃ d, L[k] = d := ⟨_, rfl⟩
        rw [hdk] at c0 c1 c2 hit hsz
        have b0 : wr.cell? ⟨g, off + k * 3, none⟩ = some (.int .i64 d.k) := (World.cell?_of_block (a := ⟨g, off + k * 3, none⟩) (hB2.block g hgs id)).trans c0
        have b1 : wr.cell? ⟨g, off + k * 3 + 1, none⟩ = some (.string d.s) := (World.cell?_of_block (a := ⟨g, off + k * 3 + 1, none⟩) (hB2.block g hgs id)).trans c1
        have b2 : wr.cell? ⟨g, off + k * 3 + 2, none⟩ = some (.int .i64 d.n) := (World.cell?_of_block (a := ⟨g, off + k * 3 + 2, none⟩) (hB2.block g hgs id)).trans c2
        have i1 : (0 : Int) ≤ (k : Int) := by omega
        have i2 : (k : Int) < (n : Int) := by omega
        obtain ⟨e0, he0⟩ : ∃ e0, tchk d = e0 := ⟨_, rfl⟩
        have HCK : Hid (∀ W, Calls Tryd.prog 19 #[.agg #[.int .i64 d.k, .string d.s, .int .i64 d.n]] W fun e w' => e = .returned (.int .i64 e0) ∧ Fr (fun _ => False) W w') := fun W => by rw [← he0]; exact (tfault_any d W hsz).mono fun e w' h => ⟨h.1, Fr.of_below h.2⟩
        by_cases hr0 : e0 = 0
        · subst hr0
          have HNX : Hid (∀ (j : Nat) (hj : j < L.length), j < k + 1 → tchk L[j] = 0) := fun j hj h => by
            by_cases c : j = k
            · subst c; rw [hdk]; exact he0
            · exact HF.out j hj (by omega)
          clear hc hdk c0 c1 c2 hgs hB2 hkd he0 hit hsz
          go_wp2_with (go_at_call 19; refine (HCK.out _).mono ?_; rintro e w2 ⟨rfl, hf2⟩; have HF2 : Hid (Fr (fun _ => False) w w2) := HFR.out.trans hf2; have HR2 : Hid (w2.heap[R]? = some (.cells #[.slice none 0 0, .slice none 0 0] 26 (0, 0))) := (hf2.block R (blk_lt HRB.out) id).trans HRB.out; clear hf2)
          go_roundw
          case rel => exact ⟨k + 1, by omega, by go_num, HNX.out, HF2.out, HR2.out⟩
          case measure => simp [intOf]; omega
        · have hrd : (e0 != 0) = true := by simpa using hr0
          have HQ : Hid ((⟨[], []⟩, k, e0) = A) := by
            show (⟨[], []⟩, k, e0) = A
            have h1 := HP2.out
            rw [hit (fun i hi => HF.out i (by omega) hi) (by rw [he0]; exact hr0), he0] at h1
            simpa using h1
          clear hc hdk c0 c1 c2 hgs hB2 hkd he0 hit hsz
          go_wp2_with (first
            | (go_at_call 19; refine (HCK.out _).mono ?_; rintro e w2 ⟨rfl, hf2⟩; have HF2 : Hid (Fr (fun _ => False) w w2) := HFR.out.trans hf2; have HR2 : Hid (w2.heap[R]? = some (.cells #[.slice none 0 0, .slice none 0 0] 26 (0, 0))) := (hf2.block R (blk_lt HRB.out) id).trans HRB.out; clear hf2)
            | ((with_reducible show wpList _ _ _ (Oper.mk _ (.store _ _ _) _ _ _ _ :: _) _ _); refine wp_st (by rfl) 26 _ _ (by rfl) R 0 [.slice none 0 0, .slice none 0 0] 26 (.agg #[.slice none 0 0, .slice none 0 0]) [.slice none 0 0, .slice none 0 0] (by rfl) (by rfl) (by rfl) HR2.out (Nat.le_of_ble_eq_true rfl) (by kernel_rfl) (by rfl) ?_; intro w9 hw9 hf9; have HW9 : Hid (w9.heap[R]? = some (.cells #[.slice none 0 0, .slice none 0 0] 26 (0, 0)) ∧ Fr (fun _ => False) w w9) := ⟨hw9, HF2.out.stored hf9 (.inr (Nat.le_of_eq HR.out))⟩; clear hw9 hf9))
          refine ret3_loc R [.slice none 0 0, .slice none 0 0] 26 _ (.int .i64 k) (.int .i64 e0) HW9.out.1 rfl rfl (by rfl) Tryd.underlying26 rfl (by kernel_rfl) (by rfl) (by rfl) ?_
          rw [← HQ.out]
          exact ⟨none, 0, none, 0, rfl, empty_b _ _, HW9.out.2.below⟩
      · obtain rfl : k = n := by omega
        have hall : ∀ t, t ∈ L → tchk t = 0 := fun t ht => by
          obtain ⟨j, hj, rfl⟩ := List.getElem_of_mem ht
          exact HF.out j hj (by have := HN.out; omega)
        have HALL : Hid (∀ t, t ∈ L → tchk t = 0) := hall
        have hP := HP2.out
        rw [tck_none L 0 hall] at hP
        have HP3 : Hid ((if (bok' L).2.e = 0 then ((bok' L).1, 0, 0) else (⟨[], []⟩, (bok' L).2.i, (bok' L).2.e)) = A) := hP
        have HB0 : Hid (Bst w ((wr.alloc (.cells bk0.toArray 26)).alloc (.cells #[.slice p k cap, .int .i64 0, .int .i64 0] 72)) (wr.heap.size + 1) (.slice p k cap) L ⟨0, 0, 0⟩ R wr.heap.size (fun _ => 0) ⟨[], []⟩ (.slice none 0 0) (.slice none 0 0)) := by
          have z1 : (wr.alloc (.cells bk0.toArray 26)).heap.size = wr.heap.size + 1 := by simp
          have z2 := blk_lt HRB.out
          have z3 := hB2.size
          have hg9 := heap_alloc_new (wr.alloc (.cells bk0.toArray 26)) (.cells #[.slice p k cap, .int .i64 0, .int .i64 0] 72)
          rw [z1] at hg9
          have hbl := ((hB2.alloc (.cells bk0.toArray 26)).alloc (.cells #[.slice p k cap, .int .i64 0, .int .i64 0] 72))
          refine ⟨⟨hg9, HT.out.below hbl.below, fun h0 b hb => by have := HLOW.out (by have := HN.out; omega) b hb; omega, HLEN.out, Nat.zero_le _, hall⟩, Row.nil _ _ _ _, Row.nil _ _ _ _, ?_, ?_, hbl, ⟨Nat.le_of_eq HR.out, z2, by omega⟩, fun h0 => HLOW.out (by have := HN.out; omega)⟩
          · exact (Below.heap_alloc _ _ _ (by rw [z1]; omega)).trans (heap_alloc_new _ _)
          · exact (Below.heap_alloc _ _ _ (by rw [z1]; omega)).trans ((Below.heap_alloc _ _ _ z2).trans HRB.out)
        obtain ⟨F, hF⟩ : ∃ F, bkp' L (L.length + 1) ⟨[], []⟩ ⟨0, 0, 0⟩ = F := ⟨_, rfl⟩
        have HFF : Hid (bkp' L (L.length + 1) ⟨[], []⟩ ⟨0, 0, 0⟩ = F) := hF
        unfold bok' at HP3
        rw [hF] at HP3
        clear hall hP hB2 hF HRB HFR HT HLOW
        go_wp2_with fail
        obtain ⟨wb0, hwb⟩ : ∃ wb0, (wr.alloc (.cells bk0.toArray 26)).alloc (.cells #[.slice p k cap, .int .i64 0, .int .i64 0] 72) = wb0 := ⟨_, rfl⟩
        obtain ⟨g, hg⟩ : ∃ g, wr.heap.size + 1 = g := ⟨_, rfl⟩
        obtain ⟨U, hU⟩ : ∃ U, wr.heap.size = U := ⟨_, rfl⟩
        obtain ⟨V, hV⟩ : ∃ V, Value.slice p k cap = V := ⟨_, rfl⟩
        rw [hwb, hg, hU, hV] at HB0
        change Go.Code.wp _ _ _ _ ((wr.alloc (.cells bk0.toArray 26)).alloc (.cells #[.slice p k cap, .int .i64 0, .int .i64 0] 72))
        rw [hwb, hg, hU]
        clear hwb hg hU hV
        go_loopg [9, 10, 11, 12] (L.length + 1) (fun gn v9 v10 v11 v12 wr => ∃ (b : Bk) (st : St) (col : Nat → Nat) (tv rv : Value), Bst w wr g V L st R U col b tv rv ∧ bkp' L gn b st = F ∧ (st.e = 0 ∧ st.i < L.length → L.length ≤ st.i + gn) ∧ b.t.length + b.r.length ≤ st.i ∧ st.o = 0)
        case atStart => exact ⟨_, _, _, _, _, HB0.out, HFF.out, fun _ => by simp, by simp, rfl⟩
        case round =>
          obtain ⟨b, st, col, tv, rv, hbst, hbp, hk, hlen, ho⟩ := hrel
          obtain ⟨p1, k1, e1⟩ := hbst.r1.shape
          obtain ⟨n1, hn1⟩ : ∃ n1, (b.t.map encY).length = n1 := ⟨_, rfl⟩
          rw [hn1] at e1
          subst e1
          obtain ⟨p2, k2', e2⟩ := hbst.r2.shape
          obtain ⟨n2, hn2⟩ : ∃ n2, (b.r.map encR).length = n2 := ⟨_, rfl⟩
          rw [hn2] at e2
          subst e2
          obtain ⟨N0, hN0⟩ : ∃ N0, wr.heap.size = N0 := ⟨_, rfl⟩
          have HN0 : Hid (wr.heap.size = N0) := hN0
          obtain ⟨c0, hc0⟩ : ∃ c0, pcol col N0 = c0 := ⟨_, rfl⟩
          have HC0 : Hid (∀ i, N0 ≤ i → c0 i = 0) := fun i hi => by rw [← hc0]; unfold pcol; exact if_neg (by omega)
          have PB : Hid (Bst w wr g V L st R U c0 b (.slice p1 n1 k1) (.slice p2 n2 k2')) := hbst.recol (fun i _ _ hl => by rw [← hc0]; unfold pcol; exact if_pos (by omega))
          have y1 := hbst.env.c1
          have y2 := hbst.env.c2
          have HGN : Hid (g < N0) := by have := blk_lt hbst.env.blk; show g < N0; omega
          have HOW : Hid (∀ k, (Value.slice p1 n1 k1).ownBlock = some k → k < N0) := own_first hbst.r1 hN0
          have HOW2 : Hid (∀ k, (Value.slice p2 n2 k2').ownBlock = some k → k < N0) := own_first hbst.r2 hN0
          have HL1 : Hid ((b.t.map encY).length = n1) := hn1
          have HL2 : Hid ((b.r.map encR).length = n2) := hn2
          have hpos := hbst.env.pos
          clear hn1 hn2 hN0 hc0 hbst HB0 HFF
          by_cases hin : st.e = 0 ∧ st.i < L.length
          · have hb0 : (st.e == 0) = true := by simpa using hin.1
            have hb2 : (st.i : Int) < (k : Int) := by have := HN.out; omega
            obtain ⟨k2, rfl⟩ : ∃ k2, gk = k2 + 1 := ⟨gk - 1, by have := hk hin; omega⟩
            rw [bkp', if_pos hin] at hbp
            cases hb_T1 : see L [116, 121, 112, 101] st
            · rw [if_neg (by rw [hb_T1]; decide)] at hbp
              cases hb_T2 : see L [114, 117, 108, 101] st
              · rw [if_neg (by rw [hb_T2]; decide)] at hbp
                obtain ⟨s5, h_s5⟩ : ∃ s5, fal L st = s5 := ⟨_, rfl⟩
                rw [h_s5] at hbp
                have hff := fal_i L st
                rw [h_s5] at hff
                have HBP : Hid (bkp' L k2 b s5 = F ∧ (s5.e = 0 ∧ s5.i < L.length → L.length ≤ s5.i + k2) ∧ b.t.length + b.r.length ≤ s5.i ∧ s5.o = 0) := by
                  refine ⟨hbp, fun hq => ?_, by omega, by omega⟩
                  exact absurd hq.1 (by rw [← h_s5]; exact fal_bad _ _)
                have T1 : Hid (∀ W, Env W g V L st → Calls Tryd.prog 20 #[rp g, .int .i64 1, .string ⟨#[116, 121, 112, 101]⟩] W fun e w' => e = .returned (.bool false) ∧ Env w' g V L st ∧ Fr (fun i => i = g) W w') := fun W hW => by
                  have := is_any W g V L st 1 [116, 121, 112, 101] (.inl ⟨rfl, by kernel_rfl⟩) hW
                  unfold tks at this
                  rw [hb_T1] at this
                  exact this
                have T2 : Hid (∀ W, Env W g V L st → Calls Tryd.prog 20 #[rp g, .int .i64 1, .string ⟨#[114, 117, 108, 101]⟩] W fun e w' => e = .returned (.bool false) ∧ Env w' g V L st ∧ Fr (fun i => i = g) W w') := fun W hW => by
                  have := is_any W g V L st 1 [114, 117, 108, 101] (.inl ⟨rfl, by kernel_rfl⟩) hW
                  unfold tks at this
                  rw [hb_T2] at this
                  exact this
                have HWR : Hid (∀ W, Env W g V L st → Calls Tryd.prog 24 #[rp g] W fun e w' => e = .returned (.tuple #[]) ∧ Env w' g V L s5 ∧ Fr (fun i => i = g) W w') := fun W hW => by
                  have := wrong_any W g V L st hW
                  rw [h_s5] at this
                  exact this
                clear h_s5 hff hbp hk hlen ho hin hb_T1 hb_T2
                go_wp2_with (first
                    | (go_at_call 24; refine (HWR.out _ PC2.out.env).mono ?_; rintro e w5 ⟨rfl, he_, hf_⟩; have P5 : Hid (Bst w w5 g V L s5 R U c0 b (.slice p1 n1 k1) (.slice p2 n2 k2')) := PC2.out.call he_ hf_; clear he_ hf_)
                    | (go_at_call_of 20 (Value.string ⟨#[114, 117, 108, 101]⟩); refine (T2.out _ PA.out.env).mono ?_; rintro e wb ⟨rfl, he_, hf_⟩; have PC2 : Hid (Bst w wb g V L st R U c0 b (.slice p1 n1 k1) (.slice p2 n2 k2')) := PA.out.call he_ hf_; clear he_ hf_)
                    | (go_at_call_of 20 (Value.string ⟨#[116, 121, 112, 101]⟩); refine (T1.out _ PB.out.env).mono ?_; rintro e wa ⟨rfl, he_, hf_⟩; have PA : Hid (Bst w wa g V L st R U c0 b (.slice p1 n1 k1) (.slice p2 n2 k2')) := PB.out.call he_ hf_; clear he_ hf_))
                go_roundg k2
                case measure => omega
                case rel => exact ⟨b, s5, c0, _, _, P5.out, HBP.out.1, HBP.out.2.1, HBP.out.2.2.1, HBP.out.2.2.2⟩
              · rw [if_pos hb_T2] at hbp
                have HLN : Hid ((b.r.map encR).length ≤ 800) := by show _ ≤ 800; rw [List.length_map]; have := HLEN.out; omega
                clear hpos
                obtain ⟨a, h_a⟩ : ∃ a, (nam L st.adv).1 = a := ⟨_, rfl⟩
                obtain ⟨s1, h_s1⟩ : ∃ s1, (nam L st.adv).2 = s1 := ⟨_, rfl⟩
                obtain ⟨s2, h_s2⟩ : ∃ s2, wnt L [123] s1 = s2 := ⟨_, rfl⟩
                obtain ⟨rq, h_rq⟩ : ∃ rq, rlp' L (L.length + 1) ⟨a, [], [], [], [], ⟨txt [], []⟩⟩ s2 = rq := ⟨_, rfl⟩
                obtain ⟨x, s3⟩ := rq
                have hrl : rle' L st.adv = (x, s3) := by
                  unfold rle'
                  rw [h_a, h_s1, h_s2, h_rq]
                have hgd := rle'_g L st.adv ho
                rw [hrl] at hbp hgd
                simp only at hbp hgd
                have e1 : st.adv.i = st.i + 1 := rfl
                have e2 : st.adv.o = st.o := rfl
                have HBP : Hid (bkp' L k2 ⟨b.t, b.r ++ [x]⟩ s3 = F ∧ (s3.e = 0 ∧ s3.i < L.length → L.length ≤ s3.i + k2) ∧ b.t.length + b.r.length + 1 ≤ s3.i ∧ s3.o = 0) := ⟨hbp, fun _ => by have := hk hin; omega, by omega, by omega⟩
                have ho2 : s2.o = 0 := by
                  have q1 := nam_g L st.adv
                  have q2 := wnt_i L [123] s1
                  rw [h_s1] at q1
                  rw [h_s2] at q2
                  omega
                have HRL : Hid (rlp' L (L.length + 1) ⟨a, [], [], [], [], ⟨txt [], []⟩⟩ s2 = (x, s3) ∧ s2.o = 0) := ⟨h_rq, ho2⟩
                have T1 : Hid (∀ W, Env W g V L st → Calls Tryd.prog 20 #[rp g, .int .i64 1, .string ⟨#[116, 121, 112, 101]⟩] W fun e w' => e = .returned (.bool false) ∧ Env w' g V L st ∧ Fr (fun i => i = g) W w') := fun W hW => by
                  have := is_any W g V L st 1 [116, 121, 112, 101] (.inl ⟨rfl, by kernel_rfl⟩) hW
                  unfold tks at this
                  rw [hb_T1] at this
                  exact this
                have T2 : Hid (∀ W, Env W g V L st → Calls Tryd.prog 20 #[rp g, .int .i64 1, .string ⟨#[114, 117, 108, 101]⟩] W fun e w' => e = .returned (.bool true) ∧ Env w' g V L st.adv ∧ Fr (fun i => i = g) W w') := fun W hW => by
                  have := is_any W g V L st 1 [114, 117, 108, 101] (.inl ⟨rfl, by kernel_rfl⟩) hW
                  unfold tks at this
                  rw [hb_T2] at this
                  exact this
                have HNA : Hid (∀ W, Env W g V L st.adv → Calls Tryd.prog 21 #[rp g] W fun e w' => e = .returned (.string a) ∧ Env w' g V L s1 ∧ Fr (fun i => i = g) W w') := fun W hW => by
                  have := ident_any W g V L st.adv hW
                  rw [h_a, h_s1] at this
                  exact this
                have HW1 : Hid (∀ W, Env W g V L s1 → Calls Tryd.prog 22 #[rp g, .int .i64 4, .string ⟨#[123]⟩] W fun e w' => e = .returned (.tuple #[]) ∧ Env w' g V L s2 ∧ Fr (fun i => i = g) W w') := fun W hW => by
                  have := want_any W g V L s1 4 [123] (.inr ⟨rfl, by decide⟩) hW
                  rw [h_s2] at this
                  exact this
                obtain ⟨i0, a1, a2, a3, a4⟩ := info_parts infoR
                have HI : Hid (Tryd.prog.info? 44 = some i0 ∧ i0.zero = some (.agg #[.string ByteArray.empty, .slice none 0 0, .slice none 0 0, .slice none 0 0, .slice none 0 0, .string ByteArray.empty, .slice none 0 0]) ∧ i0.size = 7 ∧ i0.bytes = 152) := ⟨a1, a2, a3, a4⟩
                clear a1 a2 a3 a4
                clear hrl hgd e1 e2 hbp hk hlen ho hin h_a h_s1 h_s2 h_rq hb_T1 hb_T2 ho2
                go_wp2_with (first
                    | (go_at_call_of 22 (Value.string ⟨#[123]⟩); refine (HW1.out _ PD.out.env).mono ?_; rintro e we ⟨rfl, he_, hf_⟩; have PE : Hid (Bst w we g V L s2 R U c0 b (.slice p1 n1 k1) (.slice p2 n2 k2')) := PD.out.call he_ hf_; have HM3 : Hid (we.heap[wb.heap.size]? = some (.cells (ruC a (.slice none 0 0) (.slice none 0 0) (.slice none 0 0) (.slice none 0 0) (txt []) (.slice none 0 0)).toArray 44 (0, 0))) := (hf_.block _ (blk_lt HM2.out) (by { show ¬ _ = g; have := HWA.out; have := HGN.out; omega })).trans HM2.out; clear he_ hf_)
                    | ((with_reducible show wpList _ _ _ (Oper.mk _ (.store _ _ _) _ _ _ _ :: _) _ _); refine wp_st (by rfl) 9 _ _ (by rfl) wb.heap.size 0 ru0 44 (.string a) [.string a] (by rfl) (by rfl) (by rfl) HM1.out (Nat.le_of_ble_eq_true rfl) (by kernel_rfl) (by rfl) ?_; intro wd hw_ hf_; have HM2 : Hid (wd.heap[wb.heap.size]? = some (.cells (ruC a (.slice none 0 0) (.slice none 0 0) (.slice none 0 0) (.slice none 0 0) (txt []) (.slice none 0 0)).toArray 44 (0, 0))) := hw_; have PD : Hid (Bst w wd g V L s1 R U c0 b (.slice p1 n1 k1) (.slice p2 n2 k2')) := PCc.out.st hf_ (HC0.out _ HWA.out) (by { have := HWA.out; have := HGN.out; omega }); clear hw_ hf_)
                    | (go_at_call 21; refine (HNA.out _ PA1.out.env).mono ?_; rintro e wc ⟨rfl, he_, hf_⟩; have PCc : Hid (Bst w wc g V L s1 R U c0 b (.slice p1 n1 k1) (.slice p2 n2 k2')) := PA1.out.call he_ hf_; have HM1 : Hid (wc.heap[wb.heap.size]? = some (.cells ru0.toArray 44 (0, 0))) := (hf_.block _ (by { simp }) (by { show ¬ _ = g; have := HWA.out; have := HGN.out; omega })).trans (heap_alloc_new _ _); clear he_ hf_)
                    | (go_at_call_of 20 (Value.string ⟨#[114, 117, 108, 101]⟩); refine (T2.out _ PA.out.env).mono ?_; rintro e wb ⟨rfl, he_, hf_⟩; have PC2 : Hid (Bst w wb g V L st.adv R U c0 b (.slice p1 n1 k1) (.slice p2 n2 k2')) := PA.out.call he_ hf_; have PA1 : Hid (Bst w (wb.alloc (.cells ru0.toArray 44)) g V L st.adv R U c0 b (.slice p1 n1 k1) (.slice p2 n2 k2')) := PC2.out.alloc _; have HWA : Hid (N0 ≤ wb.heap.size) := Nat.le_trans HWB.out hf_.size; clear he_ hf_)
                    | (go_at_call_of 20 (Value.string ⟨#[116, 121, 112, 101]⟩); refine (T1.out _ PB.out.env).mono ?_; rintro e wa ⟨rfl, he_, hf_⟩; have PA : Hid (Bst w wa g V L st R U c0 b (.slice p1 n1 k1) (.slice p2 n2 k2')) := PB.out.call he_ hf_; have HWB : Hid (N0 ≤ wa.heap.size) := Nat.le_trans (Nat.le_of_eq HN0.out.symm) hf_.size; clear he_ hf_))
                obtain ⟨X, hX⟩ : ∃ X, wb.heap.size = X := ⟨_, rfl⟩
                have HNM : Hid (N0 ≤ X) := by rw [← hX]; exact HWA.out
                rw [hX] at HM3 ⊢
                have PX0 : Hid (Xst w we g V L s2 R U c0 b (.slice p1 n1 k1) (.slice p2 n2 k2') X (ruC a (.slice none 0 0) (.slice none 0 0) (.slice none 0 0) (.slice none 0 0) (txt []) (.slice none 0 0)) (fun _ => 0) ⟨a, [], [], [], [], ⟨txt [], []⟩⟩ (.slice none 0 0) (.slice none 0 0) (.slice none 0 0) (.slice none 0 0) (.slice none 0 0)) := ⟨PE.out, HM3.out, rr_empty _ _ _ _, by have := HGN.out; have := HNM.out; omega, fun i hi => HC0.out i (by have := HNM.out; omega)⟩
                clear HWA HWB PA1 PCc PD PE HM1 HM2 HM3 PA PB PC2 hX y1 y2
                go_loopg [] (L.length + 1) (fun gn wr => ∃ (r : Rl) (sr : St) (cr : Nat → Nat) (v1 v2 v3 v4 v5 : Value), Xst w wr g V L sr R U c0 b (.slice p1 n1 k1) (.slice p2 n2 k2') X (ruC r.n v1 v2 v3 v4 r.e.ty v5) cr r v1 v2 v3 v4 v5 ∧ rlp' L gn r sr = (x, s3) ∧ (sr.e = 0 → L.length < sr.i + gn) ∧ r.w.length + r.t.length + r.m.length + r.k.length ≤ sr.i ∧ sr.o = 0 ∧ (sr.e = 0 → r.e.ty.data.toList = [] → r.e.v = []))
                case atStart => exact ⟨_, s2, _, _, _, _, _, _, PX0.out, HRL.out.1, fun _ => by omega, by simp, HRL.out.2, fun _ _ => rfl⟩
                case round =>
                  obtain ⟨r, sr, cr, v1, v2, v3, v4, v5, hxs, hrlp, hmz, hlz, hoz, hez⟩ := hrel
                  have hrr := hxs.rr
                  have hpz := hxs.bst.env.pos
                  have y2 := hxs.bst.env.c2
                  have hl7 := HLEN.out
                  obtain ⟨q1, j1, e1⟩ := hrr.r1.shape
                  obtain ⟨l1, hl1⟩ : ∃ l, (r.w.map encP).length = l := ⟨_, rfl⟩
                  rw [hl1] at e1
                  subst e1
                  obtain ⟨q2, j2, e2⟩ := hrr.r2.shape
                  obtain ⟨l2, hl2⟩ : ∃ l, (r.t.map encP).length = l := ⟨_, rfl⟩
                  rw [hl2] at e2
                  subst e2
                  obtain ⟨q3, j3, e3⟩ := hrr.r3.shape
                  obtain ⟨l3, hl3⟩ : ∃ l, (r.m.map encM).length = l := ⟨_, rfl⟩
                  rw [hl3] at e3
                  subst e3
                  obtain ⟨q4, j4, e4⟩ := hrr.r4.shape
                  obtain ⟨l4, hl4⟩ : ∃ l, (r.k.map encK).length = l := ⟨_, rfl⟩
                  rw [hl4] at e4
                  subst e4
                  obtain ⟨q5, j5, e5⟩ := hrr.r5.shape
                  obtain ⟨l5, hl5⟩ : ∃ l, (r.e.v.map encO).length = l := ⟨_, rfl⟩
                  rw [hl5] at e5
                  subst e5
                  clear hrr hl1 hl2 hl3 hl4 hl5
                  have PX : Hid (Xst w wr g V L sr R U c0 b (.slice p1 n1 k1) (.slice p2 n2 k2') X (ruC r.n (.slice q1 l1 j1) (.slice q2 l2 j2) (.slice q3 l3 j3) (.slice q4 l4 j4) r.e.ty (.slice q5 l5 j5)) cr r (.slice q1 l1 j1) (.slice q2 l2 j2) (.slice q3 l3 j3) (.slice q4 l4 j4) (.slice q5 l5 j5)) := hxs
                  clear hxs PX0
                  by_cases he0 : sr.e = 0
                  · have hb0 : (sr.e == 0) = true := by simpa using he0
                    obtain ⟨k, rfl⟩ : ∃ k, gk = k + 1 := ⟨gk - 1, by have := hmz he0; omega⟩
                    cases hb_TB : see L [125] sr
                    · rw [rlp'_step he0 hb_TB] at hrlp
                      have hg2 := cla'_g L r sr hoz
                      have hgw := wnt_i L [59] (cla' L r sr).2
                      have hgk := @wnt_ok L [59] (cla' L r sr).2
                      have hem := cla'_em L r sr HALL.out (hez he0)
                      have HPA : Hid (∀ W, Env W g V L sr → RR W (X + 1) cr r (.slice q1 l1 j1) (.slice q2 l2 j2) (.slice q3 l3 j3) (.slice q4 l4 j4) (.slice q5 l5 j5) → X < W.heap.size → Calls Tryd.prog 23 #[rp g, (.agg #[.string r.n, (.slice q1 l1 j1), (.slice q2 l2 j2), (.slice q3 l3 j3), (.slice q4 l4 j4), .string r.e.ty, (.slice q5 l5 j5)])] W (PartPost W g V L (X + 1) (cla' L r sr).1 (wnt L [59] (cla' L r sr).2))) := fun W h1 h2 h3 => part_any W g V L sr (X + 1) cr r _ _ _ _ _ h1 h2 (by have := HGN.out; have := HNM.out; omega) h3 hoz ⟨by omega, by omega, by omega, by omega⟩ (hez he0)
                      obtain ⟨r', h_r'⟩ : ∃ r', (cla' L r sr).1 = r' := ⟨_, rfl⟩
                      obtain ⟨s9, h_s9⟩ : ∃ s9, wnt L [59] (cla' L r sr).2 = s9 := ⟨_, rfl⟩
                      rw [h_r', h_s9] at hrlp HPA hem
                      rw [h_r'] at hg2
                      rw [h_s9] at hgw hgk
                      have HREL : Hid (rlp' L k r' s9 = (x, s3) ∧ (s9.e = 0 → L.length < s9.i + k) ∧ r'.w.length + r'.t.length + r'.m.length + r'.k.length ≤ s9.i ∧ s9.o = 0 ∧ (s9.e = 0 → r'.e.ty.data.toList = [] → r'.e.v = [])) := ⟨hrlp, fun h => by have := hgk h; have := hmz he0; omega, by omega, by omega, hem⟩
                      have TB : Hid (∀ W, Env W g V L sr → Calls Tryd.prog 20 #[rp g, .int .i64 4, .string ⟨#[125]⟩] W fun e w' => e = .returned (.bool false) ∧ Env w' g V L sr ∧ Fr (fun i => i = g) W w') := fun W hW => by
                        have := is_any W g V L sr 4 [125] (.inr ⟨rfl, by decide⟩) hW
                        unfold tks at this
                        rw [hb_TB] at this
                        exact this
                      clear hg2 hgw hgk hem hrlp h_r' h_s9 hmz hlz hoz hez hpz hl7 he0 hb_TB
                      go_wp2_with (first
                    | ((with_reducible show wpList _ _ _ (Oper.mk _ (.store _ _ _) _ _ _ _ :: _) _ _); refine wp_st (by rfl) 44 _ _ (by rfl) X 0 (ruC r.n (.slice q1 l1 j1) (.slice q2 l2 j2) (.slice q3 l3 j3) (.slice q4 l4 j4) r.e.ty (.slice q5 l5 j5)) 44 (.agg #[.string r'.n, (.slice x1 m1 z1), (.slice x2 m2 z2), (.slice x3 m3 z3), (.slice x4 m4 z4), .string r'.e.ty, (.slice x5 m5 z5)]) (ruC r'.n (.slice x1 m1 z1) (.slice x2 m2 z2) (.slice x3 m3 z3) (.slice x4 m4 z4) r'.e.ty (.slice x5 m5 z5)) (by rfl) (by rfl) (by rfl) PQ.out.xb (Nat.le_of_ble_eq_true rfl) (by kernel_rfl) (by rfl) ?_; intro wz hw_ hf_; have PZ : Hid (Xst w wz g V L s9 R U c0 b (.slice p1 n1 k1) (.slice p2 n2 k2') X (ruC r'.n (.slice x1 m1 z1) (.slice x2 m2 z2) (.slice x3 m3 z3) (.slice x4 m4 z4) r'.e.ty (.slice x5 m5 z5)) cq r' (.slice x1 m1 z1) (.slice x2 m2 z2) (.slice x3 m3 z3) (.slice x4 m4 z4) (.slice x5 m5 z5)) := PQ.out.st hw_ hf_; clear hw_ hf_)
                    | ((with_reducible show wpList _ _ _ (Oper.mk _ (.load _ _) _ _ _ _ :: _) _ _); refine wp_ld (by rfl) 44 _ (by rfl) X (ruC r.n (.slice q1 l1 j1) (.slice q2 l2 j2) (.slice q3 l3 j3) (.slice q4 l4 j4) r.e.ty (.slice q5 l5 j5)) 44 _ (by rfl) PY.out.xb Tryd.underlying44 rfl (by kernel_rfl) ?_)
                    | (go_at_call 23; refine (HPA.out _ PY.out.bst.env PY.out.rr (blk_lt PY.out.xb)).mono ?_; rintro e wq ⟨cq, u1, u2, u3, u4, u5, rfl, hr_, he_, hf_⟩; obtain ⟨x1, z1, e1⟩ := hr_.r1.shape; obtain ⟨m1, hm1⟩ : ∃ m, (r'.w.map encP).length = m := ⟨_, rfl⟩; rw [hm1] at e1; subst e1; obtain ⟨x2, z2, e2⟩ := hr_.r2.shape; obtain ⟨m2, hm2⟩ : ∃ m, (r'.t.map encP).length = m := ⟨_, rfl⟩; rw [hm2] at e2; subst e2; obtain ⟨x3, z3, e3⟩ := hr_.r3.shape; obtain ⟨m3, hm3⟩ : ∃ m, (r'.m.map encM).length = m := ⟨_, rfl⟩; rw [hm3] at e3; subst e3; obtain ⟨x4, z4, e4⟩ := hr_.r4.shape; obtain ⟨m4, hm4⟩ : ∃ m, (r'.k.map encK).length = m := ⟨_, rfl⟩; rw [hm4] at e4; subst e4; obtain ⟨x5, z5, e5⟩ := hr_.r5.shape; obtain ⟨m5, hm5⟩ : ∃ m, (r'.e.v.map encO).length = m := ⟨_, rfl⟩; rw [hm5] at e5; subst e5; have PQ : Hid (Xst w wq g V L s9 R U c0 b (.slice p1 n1 k1) (.slice p2 n2 k2') X (ruC r.n (.slice q1 l1 j1) (.slice q2 l2 j2) (.slice q3 l3 j3) (.slice q4 l4 j4) r.e.ty (.slice q5 l5 j5)) cq r' (.slice x1 m1 z1) (.slice x2 m2 z2) (.slice x3 m3 z3) (.slice x4 m4 z4) (.slice x5 m5 z5)) := PY.out.part hr_ he_ hf_; clear hr_ he_ hf_ hm1 hm2 hm3 hm4 hm5)
                    | (go_at_call_of 20 (Value.string ⟨#[125]⟩); refine (TB.out _ PX.out.bst.env).mono ?_; rintro e wy ⟨rfl, he_, hf_⟩; have PY : Hid (Xst w wy g V L sr R U c0 b (.slice p1 n1 k1) (.slice p2 n2 k2') X (ruC r.n (.slice q1 l1 j1) (.slice q2 l2 j2) (.slice q3 l3 j3) (.slice q4 l4 j4) r.e.ty (.slice q5 l5 j5)) cr r (.slice q1 l1 j1) (.slice q2 l2 j2) (.slice q3 l3 j3) (.slice q4 l4 j4) (.slice q5 l5 j5)) := PX.out.call he_ hf_; clear he_ hf_))
                      go_roundg k
                      case measure => omega
                      case rel => exact ⟨r', s9, cq, _, _, _, _, _, PZ.out, HREL.out.1, HREL.out.2.1, HREL.out.2.2.1, HREL.out.2.2.2.1, HREL.out.2.2.2.2⟩
                    · rw [rlp'_end he0 hb_TB] at hrlp
                      simp only [Prod.mk.injEq] at hrlp
                      obtain ⟨rfl, rfl⟩ := hrlp
                      have TB : Hid (∀ W, Env W g V L sr → Calls Tryd.prog 20 #[rp g, .int .i64 4, .string ⟨#[125]⟩] W fun e w' => e = .returned (.bool true) ∧ Env w' g V L sr.adv ∧ Fr (fun i => i = g) W w') := fun W hW => by
                        have := is_any W g V L sr 4 [125] (.inr ⟨rfl, by decide⟩) hW
                        unfold tks at this
                        rw [hb_TB] at this
                        exact this
                      clear hmz hlz hoz hez hpz hl7 he0 hb_TB HRL
                      go_wp2_with (first
                    | (at_builtin; refine wp_appS (by rfl) _ _ 24 (by rfl) 44 i0 (.agg #[.string ByteArray.empty, .slice none 0 0, .slice none 0 0, .slice none 0 0, .slice none 0 0, .string ByteArray.empty, .slice none 0 0]) 7 152 Tryd.underlying24 HI.out.1 HI.out.2.1 HI.out.2.2.1 HI.out.2.2.2 rfl (by omega) (Cq (g + 1) (pcol2 c0 X X 2) 2) (.slice p2 n2 k2') (b.r.map encR) (by rfl) (PC.out.r2.alloc _) (HSZ.out _) (encR r) (ruC r.n (.slice q1 l1 j1) (.slice q2 l2 j2) (.slice q3 l3 j3) (.slice q4 l4 j4) r.e.ty (.slice q5 l5 j5)) ⟨wy.heap.size, 0, none⟩ (by rfl) (by rfl) (World.news_of_block (heap_alloc_new _ _)) (by rfl) ((RR.holds PX9.out.rr (S := fun i => Cq (g + 1) (pcol2 c0 X X 2) 2 i ∧ Value.ownBlock (.slice p2 n2 k2') ≠ some i) (fun i hi => ⟨⟨by { have := HGN.out; have := HNM.out; omega }, pcol2_new (by { omega }) (by { omega })⟩, fun e => by { have h2 := HOW2.out _ e; have := HNM.out; omega }⟩)).on ((Fr.refl _ _).alloc _)) HLN.out (by omega) ?_; intro v5 w5 hrw hgb hown; obtain ⟨p5, cap5, e5⟩ := Row.shape hrw; obtain ⟨n5, hn5⟩ : ∃ n5, (b.r.map encR ++ [encR r]).length = n5 := ⟨_, rfl⟩; rw [hn5] at e5; subst e5; have HU5 : Hid (w5.heap[U]? = some (.cells [(.slice p1 n1 k1), (.slice p2 n2 k2')].toArray 26 (0, 0))) := (hgb.block U (by { have := blk_lt (PC.out.alloc (.cells (ruC r.n (.slice q1 l1 j1) (.slice q2 l2 j2) (.slice q3 l3 j3) (.slice q4 l4 j4) r.e.ty (.slice q5 l5 j5)).toArray 44)).blk; exact this }) (fun e => by { have h1 := (hown _ e.symm).1; have h2 := PC.out.lo; omega })).trans (PC.out.alloc (.cells (ruC r.n (.slice q1 l1 j1) (.slice q2 l2 j2) (.slice q3 l3 j3) (.slice q4 l4 j4) r.e.ty (.slice q5 l5 j5)).toArray 44)).blk; have f5 := free_of_blk HU5.out 1; have c5 : w5.cell? ⟨U, 1, none⟩ = some (.slice p2 n2 k2') := by { rw [cell_of_blk HU5.out]; rfl }; have P5 : Hid (Bst w (w5.setCell ⟨U, 1, none⟩ (.slice p5 n5 cap5)) g V L sr.adv R U (pcol2 c0 X X 2) ⟨b.t, b.r ++ [r]⟩ (.slice p1 n1 k1) (.slice p5 n5 cap5)) := (PC.out.alloc (.cells (ruC r.n (.slice q1 l1 j1) (.slice q2 l2 j2) (.slice q3 l3 j3) (.slice q4 l4 j4) r.e.ty (.slice q5 l5 j5)).toArray 44)).app2 hgb hown hrw; clear hrw hgb hown hn5)
                    | ((with_reducible show wpList _ _ _ (Oper.mk _ (.load _ _) _ _ _ _ :: _) _ _); refine wp_ld (by rfl) 44 _ (by rfl) X (ruC r.n (.slice q1 l1 j1) (.slice q2 l2 j2) (.slice q3 l3 j3) (.slice q4 l4 j4) r.e.ty (.slice q5 l5 j5)) 44 _ (by rfl) PX9.out.xb Tryd.underlying44 rfl (by kernel_rfl) ?_)
                    | (go_at_call_of 20 (Value.string ⟨#[125]⟩); refine (TB.out _ PX.out.bst.env).mono ?_; rintro e wy ⟨rfl, he_, hf_⟩; have PX9 : Hid (Xst w wy g V L sr.adv R U c0 b (.slice p1 n1 k1) (.slice p2 n2 k2') X (ruC r.n (.slice q1 l1 j1) (.slice q2 l2 j2) (.slice q3 l3 j3) (.slice q4 l4 j4) r.e.ty (.slice q5 l5 j5)) cr r (.slice q1 l1 j1) (.slice q2 l2 j2) (.slice q3 l3 j3) (.slice q4 l4 j4) (.slice q5 l5 j5)) := PX.out.call he_ hf_; have PC : Hid (Bst w wy g V L sr.adv R U (pcol2 c0 X X 2) b (.slice p1 n1 k1) (.slice p2 n2 k2')) := PX9.out.bst.recol (fun i _ h1 _ => pcol2_old HC0.out HNM.out h1); have HSZ : Hid (∀ o, Cq (g + 1) (pcol2 c0 X X 2) 2 (wy.alloc o).heap.size) := fun o => ⟨by { have h2 := blk_lt PX9.out.xb; have := HGN.out; have := HNM.out; simp; omega }, pcol2_new (by { have h2 := blk_lt PX9.out.xb; simp; omega }) (by { have h2 := blk_lt PX9.out.xb; simp; omega })⟩; have cU : wy.cell? ⟨U, 1, none⟩ = some (.slice p2 n2 k2') := PX9.out.bst.cell 1; clear he_ hf_))
                      go_roundg k2
                      case measure => omega
                      case rel => exact ⟨⟨b.t, b.r ++ [r]⟩, sr.adv, _, _, _, P5.out, HBP.out.1, HBP.out.2.1, by have := HBP.out.2.2.1; simp only [List.length_append, List.length_singleton]; omega, HBP.out.2.2.2⟩
                  · have hb0 : (sr.e == 0) = false := by simpa using he0
                    rw [rlp'_bad he0] at hrlp
                    simp only [Prod.mk.injEq] at hrlp
                    obtain ⟨rfl, rfl⟩ := hrlp
                    have PX9 : Hid (Xst w wr g V L sr R U c0 b (.slice p1 n1 k1) (.slice p2 n2 k2') X (ruC r.n (.slice q1 l1 j1) (.slice q2 l2 j2) (.slice q3 l3 j3) (.slice q4 l4 j4) r.e.ty (.slice q5 l5 j5)) cr r (.slice q1 l1 j1) (.slice q2 l2 j2) (.slice q3 l3 j3) (.slice q4 l4 j4) (.slice q5 l5 j5)) := PX.out
                    have PC : Hid (Bst w wr g V L sr R U (pcol2 c0 X X 2) b (.slice p1 n1 k1) (.slice p2 n2 k2')) := PX.out.bst.recol (fun i _ h1 _ => pcol2_old HC0.out HNM.out h1)
                    have HSZ : Hid (∀ o, Cq (g + 1) (pcol2 c0 X X 2) 2 (wr.alloc o).heap.size) := fun o => ⟨by have h2 := blk_lt PX.out.xb; have := HGN.out; have := HNM.out; simp; omega, pcol2_new (by have h2 := blk_lt PX.out.xb; simp; omega) (by have h2 := blk_lt PX.out.xb; simp; omega)⟩
                    have cU : wr.cell? ⟨U, 1, none⟩ = some (.slice p2 n2 k2') := PX.out.bst.cell 1
                    clear hmz hlz hoz hez hpz hl7 he0 HRL
                    go_wp2_with (first
                    | (at_builtin; refine wp_appS (by rfl) _ _ 24 (by rfl) 44 i0 (.agg #[.string ByteArray.empty, .slice none 0 0, .slice none 0 0, .slice none 0 0, .slice none 0 0, .string ByteArray.empty, .slice none 0 0]) 7 152 Tryd.underlying24 HI.out.1 HI.out.2.1 HI.out.2.2.1 HI.out.2.2.2 rfl (by omega) (Cq (g + 1) (pcol2 c0 X X 2) 2) (.slice p2 n2 k2') (b.r.map encR) (by rfl) (PC.out.r2.alloc _) (HSZ.out _) (encR r) (ruC r.n (.slice q1 l1 j1) (.slice q2 l2 j2) (.slice q3 l3 j3) (.slice q4 l4 j4) r.e.ty (.slice q5 l5 j5)) ⟨wr.heap.size, 0, none⟩ (by rfl) (by rfl) (World.news_of_block (heap_alloc_new _ _)) (by rfl) ((RR.holds PX9.out.rr (S := fun i => Cq (g + 1) (pcol2 c0 X X 2) 2 i ∧ Value.ownBlock (.slice p2 n2 k2') ≠ some i) (fun i hi => ⟨⟨by { have := HGN.out; have := HNM.out; omega }, pcol2_new (by { omega }) (by { omega })⟩, fun e => by { have h2 := HOW2.out _ e; have := HNM.out; omega }⟩)).on ((Fr.refl _ _).alloc _)) HLN.out (by omega) ?_; intro v5 w5 hrw hgb hown; obtain ⟨p5, cap5, e5⟩ := Row.shape hrw; obtain ⟨n5, hn5⟩ : ∃ n5, (b.r.map encR ++ [encR r]).length = n5 := ⟨_, rfl⟩; rw [hn5] at e5; subst e5; have HU5 : Hid (w5.heap[U]? = some (.cells [(.slice p1 n1 k1), (.slice p2 n2 k2')].toArray 26 (0, 0))) := (hgb.block U (by { have := blk_lt (PC.out.alloc (.cells (ruC r.n (.slice q1 l1 j1) (.slice q2 l2 j2) (.slice q3 l3 j3) (.slice q4 l4 j4) r.e.ty (.slice q5 l5 j5)).toArray 44)).blk; exact this }) (fun e => by { have h1 := (hown _ e.symm).1; have h2 := PC.out.lo; omega })).trans (PC.out.alloc (.cells (ruC r.n (.slice q1 l1 j1) (.slice q2 l2 j2) (.slice q3 l3 j3) (.slice q4 l4 j4) r.e.ty (.slice q5 l5 j5)).toArray 44)).blk; have f5 := free_of_blk HU5.out 1; have c5 : w5.cell? ⟨U, 1, none⟩ = some (.slice p2 n2 k2') := by { rw [cell_of_blk HU5.out]; rfl }; have P5 : Hid (Bst w (w5.setCell ⟨U, 1, none⟩ (.slice p5 n5 cap5)) g V L sr R U (pcol2 c0 X X 2) ⟨b.t, b.r ++ [r]⟩ (.slice p1 n1 k1) (.slice p5 n5 cap5)) := (PC.out.alloc (.cells (ruC r.n (.slice q1 l1 j1) (.slice q2 l2 j2) (.slice q3 l3 j3) (.slice q4 l4 j4) r.e.ty (.slice q5 l5 j5)).toArray 44)).app2 hgb hown hrw; clear hrw hgb hown hn5)
                    | ((with_reducible show wpList _ _ _ (Oper.mk _ (.load _ _) _ _ _ _ :: _) _ _); refine wp_ld (by rfl) 44 _ (by rfl) X (ruC r.n (.slice q1 l1 j1) (.slice q2 l2 j2) (.slice q3 l3 j3) (.slice q4 l4 j4) r.e.ty (.slice q5 l5 j5)) 44 _ (by rfl) PX9.out.xb Tryd.underlying44 rfl (by kernel_rfl) ?_))
                    go_roundg k2
                    case measure => omega
                    case rel => exact ⟨⟨b.t, b.r ++ [r]⟩, sr, _, _, _, P5.out, HBP.out.1, HBP.out.2.1, by have := HBP.out.2.2.1; simp only [List.length_append, List.length_singleton]; omega, HBP.out.2.2.2⟩
            · rw [if_pos hb_T1] at hbp
              have HLN : Hid ((b.t.map encY).length ≤ 800) := by show _ ≤ 800; rw [List.length_map]; have := HLEN.out; omega
              clear hpos
              obtain ⟨a, h_a⟩ : ∃ a, (nam L st.adv).1 = a := ⟨_, rfl⟩
              obtain ⟨s1, h_s1⟩ : ∃ s1, (nam L st.adv).2 = s1 := ⟨_, rfl⟩
              obtain ⟨s2, h_s2⟩ : ∃ s2, wnt L [123] s1 = s2 := ⟨_, rfl⟩
              have T1 : Hid (∀ W, Env W g V L st → Calls Tryd.prog 20 #[rp g, .int .i64 1, .string ⟨#[116, 121, 112, 101]⟩] W fun e w' => e = .returned (.bool true) ∧ Env w' g V L st.adv ∧ Fr (fun i => i = g) W w') := fun W hW => by
                have := is_any W g V L st 1 [116, 121, 112, 101] (.inl ⟨rfl, by kernel_rfl⟩) hW
                unfold tks at this
                rw [hb_T1] at this
                exact this
              have HNA : Hid (∀ W, Env W g V L st.adv → Calls Tryd.prog 21 #[rp g] W fun e w' => e = .returned (.string a) ∧ Env w' g V L s1 ∧ Fr (fun i => i = g) W w') := fun W hW => by
                have := ident_any W g V L st.adv hW
                rw [h_a, h_s1] at this
                exact this
              have HW1 : Hid (∀ W, Env W g V L s1 → Calls Tryd.prog 22 #[rp g, .int .i64 4, .string ⟨#[123]⟩] W fun e w' => e = .returned (.tuple #[]) ∧ Env w' g V L s2 ∧ Fr (fun i => i = g) W w') := fun W hW => by
                have := want_any W g V L s1 4 [123] (.inr ⟨rfl, by decide⟩) hW
                rw [h_s2] at this
                exact this
              obtain ⟨i0, a1, a2, a3, a4⟩ := info_parts infoY
              have HI : Hid (Tryd.prog.info? 76 = some i0 ∧ i0.zero = some (.agg #[.string ByteArray.empty, .slice none 0 0]) ∧ i0.size = 2 ∧ i0.bytes = 40) := ⟨a1, a2, a3, a4⟩
              clear a1 a2 a3 a4
              cases hb_T3 : see L [125] s2
              ·
                obtain ⟨fq, h_fq⟩ : ∃ fq, sep L [44] (fld' L) L.length (fld' L s2).2 [(fld' L s2).1] = fq := ⟨_, rfl⟩
                obtain ⟨fs, s3⟩ := fq
                obtain ⟨s4, h_s4⟩ : ∃ s4, wnt L [125] s3 = s4 := ⟨_, rfl⟩
                have htp : typ' L st.adv = (⟨a, fs⟩, s4) := by
                  unfold typ' lst
                  simp only [h_a, h_s1, h_s2]
                  rw [if_neg (by rw [hb_T3]; decide), h_fq]
                  simp only [h_s4]
                have hgd := typ'_g L st.adv
                rw [htp] at hbp hgd
                simp only at hbp hgd
                have e1 : st.adv.i = st.i + 1 := rfl
                have e2 : st.adv.o = st.o := rfl
                have HBP : Hid (bkp' L k2 ⟨b.t ++ [⟨a, fs⟩], b.r⟩ s4 = F ∧ (s4.e = 0 ∧ s4.i < L.length → L.length ≤ s4.i + k2) ∧ b.t.length + b.r.length + 1 ≤ s4.i ∧ s4.o = 0) := ⟨hbp, fun _ => by have := hk hin; omega, by omega, by omega⟩
                have T3 : Hid (∀ W, Env W g V L s2 → Calls Tryd.prog 20 #[rp g, .int .i64 4, .string ⟨#[125]⟩] W fun e w' => e = .returned (.bool false) ∧ Env w' g V L s2 ∧ Fr (fun i => i = g) W w') := fun W hW => by
                  have := is_any W g V L s2 4 [125] (.inr ⟨rfl, by decide⟩) hW
                  unfold tks at this
                  rw [hb_T3] at this
                  exact this
                have HW4 : Hid (∀ W, Env W g V L s3 → Calls Tryd.prog 22 #[rp g, .int .i64 4, .string ⟨#[125]⟩] W fun e w' => e = .returned (.tuple #[]) ∧ Env w' g V L s4 ∧ Fr (fun i => i = g) W w') := fun W hW => by
                  have := want_any W g V L s3 4 [125] (.inr ⟨rfl, by decide⟩) hW
                  rw [h_s4] at this
                  exact this
                obtain ⟨j0, a1, a2, a3, a4⟩ := info_parts infoF
                have HJ : Hid (Tryd.prog.info? 80 = some j0 ∧ j0.zero = some (.agg #[.string ByteArray.empty, .int .i64 0]) ∧ j0.size = 2 ∧ j0.bytes = 24) := ⟨a1, a2, a3, a4⟩
                clear a1 a2 a3 a4
                have HFS : Hid (sep L [44] (fld' L) L.length (fld' L s2).2 [(fld' L s2).1] = (fs, s3)) := h_fq
                clear htp hgd e1 e2 hbp hk hlen ho hin h_a h_s1 h_s2 h_s4 h_fq hb_T1 hb_T3
                go_wp2_with (first
                    | (go_at_call_of 20 (Value.string ⟨#[125]⟩); refine (T3.out _ PE.out.env).mono ?_; rintro e wf ⟨rfl, he_, hf_⟩; have PF : Hid (Bst w wf g V L s2 R U c0 b (.slice p1 n1 k1) (.slice p2 n2 k2')) := PE.out.call he_ hf_; have HM4 : Hid (wf.heap[wa.heap.size]? = some (.cells [.string a, .slice none 0 0].toArray 76 (0, 0))) := (hf_.block _ (blk_lt HM3.out) (by { show ¬ _ = g; have := HWA.out; have := HGN.out; omega })).trans HM3.out; clear he_ hf_)
                    | (go_at_call_of 22 (Value.string ⟨#[123]⟩); refine (HW1.out _ PD.out.env).mono ?_; rintro e we ⟨rfl, he_, hf_⟩; have PE : Hid (Bst w we g V L s2 R U c0 b (.slice p1 n1 k1) (.slice p2 n2 k2')) := PD.out.call he_ hf_; have HM3 : Hid (we.heap[wa.heap.size]? = some (.cells [.string a, .slice none 0 0].toArray 76 (0, 0))) := (hf_.block _ (blk_lt HM2.out) (by { show ¬ _ = g; have := HWA.out; have := HGN.out; omega })).trans HM2.out; clear he_ hf_)
                    | ((with_reducible show wpList _ _ _ (Oper.mk _ (.store _ _ _) _ _ _ _ :: _) _ _); refine wp_st (by rfl) 9 _ _ (by rfl) wa.heap.size 0 [.string (txt []), .slice none 0 0] 76 (.string a) [.string a] (by rfl) (by rfl) (by rfl) HM1.out (Nat.le_of_ble_eq_true rfl) (by kernel_rfl) (by rfl) ?_; intro wd hw_ hf_; have HM2 : Hid (wd.heap[wa.heap.size]? = some (.cells [.string a, .slice none 0 0].toArray 76 (0, 0))) := hw_; have PD : Hid (Bst w wd g V L s1 R U c0 b (.slice p1 n1 k1) (.slice p2 n2 k2')) := PCc.out.st hf_ (HC0.out _ HWA.out) (by { have := HWA.out; have := HGN.out; omega }); clear hw_ hf_)
                    | (go_at_call 21; refine (HNA.out _ PA1.out.env).mono ?_; rintro e wc ⟨rfl, he_, hf_⟩; have PCc : Hid (Bst w wc g V L s1 R U c0 b (.slice p1 n1 k1) (.slice p2 n2 k2')) := PA1.out.call he_ hf_; have HM1 : Hid (wc.heap[wa.heap.size]? = some (.cells [.string (txt []), .slice none 0 0].toArray 76 (0, 0))) := (hf_.block _ (by { simp }) (by { show ¬ _ = g; have := HWA.out; have := HGN.out; omega })).trans (heap_alloc_new _ _); clear he_ hf_)
                    | (go_at_call_of 20 (Value.string ⟨#[116, 121, 112, 101]⟩); refine (T1.out _ PB.out.env).mono ?_; rintro e wa ⟨rfl, he_, hf_⟩; have PA : Hid (Bst w wa g V L st.adv R U c0 b (.slice p1 n1 k1) (.slice p2 n2 k2')) := PB.out.call he_ hf_; have PA1 : Hid (Bst w (wa.alloc (.cells [.string (txt []), .slice none 0 0].toArray 76)) g V L st.adv R U c0 b (.slice p1 n1 k1) (.slice p2 n2 k2')) := PA.out.alloc _; have HWA : Hid (N0 ≤ wa.heap.size) := Nat.le_trans (Nat.le_of_eq HN0.out.symm) hf_.size; clear he_ hf_))
                obtain ⟨M, hM⟩ : ∃ M, wa.heap.size = M := ⟨_, rfl⟩
                have HNM : Hid (N0 ≤ M) := by rw [← hM]; exact HWA.out
                rw [hM] at HM4 ⊢
                clear HWA PA1 PCc PD PE HM1 HM2 HM3 PA PB hM y1 y2
                go_loopg [10, 11] (L.length + 1) (fun gn v o wr => ∃ (acc : List Fd) (sf : St) (po : Option Addr) (no co : Nat), Bst w wr g V L sf R U c0 b (.slice p1 n1 k1) (.slice p2 n2 k2') ∧ wr.heap[M]? = some (.cells [.string a, .slice po no co].toArray 76 (0, 0)) ∧ Row wr (fun i => M < i) 80 2 (.slice po no co) (acc.map encF) ∧ acc.length ≤ 701 ∧ ((v = .bool true ∧ ∃ k, gn = k + 1 ∧ acc.length + k ≤ 700 ∧ L.length ≤ (fld' L sf).2.i + k ∧ sep L [44] (fld' L) k (fld' L sf).2 (acc ++ [(fld' L sf).1]) = (fs, s3)) ∨ (v = .bool false ∧ (acc, sf) = (fs, s3))))
                case atStart => exact ⟨[], s2, none, 0, 0, PF.out, HM4.out, Row.nil _ _ _ _, by simp, .inl ⟨rfl, L.length, rfl, by have := HLEN.out; simp; omega, by omega, HFS.out⟩⟩
                case round =>
                  obtain ⟨acc, sf, po, no, co, hbs, hMb, hrow, hac, hcase⟩ := hrel
                  have PL : Hid (Bst w wr g V L sf R U c0 b (.slice p1 n1 k1) (.slice p2 n2 k2')) := hbs
                  have HML : Hid (wr.heap[M]? = some (.cells [.string a, .slice po no co].toArray 76 (0, 0))) := hMb
                  have HRW : Hid (Row wr (fun i => M < i) 80 2 (.slice po no co) (acc.map encF)) := hrow
                  clear hbs hMb hrow PF HM4 HFS
                  rcases hcase with ⟨rfl, k, rfl, hk1, hk2, hsep⟩ | ⟨rfl, he⟩
                  ·
                    have PL1 : Hid (Fst w (wr.alloc (.cells fd0.toArray 80)) g V L sf R U c0 b (.slice p1 n1 k1) (.slice p2 n2 k2') M a (.slice po no co) acc wr.heap.size fd0) := Fst.start PL.out HML.out HRW.out (by have := HGN.out; have := HNM.out; omega) (fun i hi => HC0.out i (by have := HNM.out; omega))
                    have HLA : Hid ((acc.map encF).length ≤ 800) := by show _ ≤ 800; rw [List.length_map]; omega
                    obtain ⟨fa, h_fa⟩ : ∃ fa, (nam L sf).1 = fa := ⟨_, rfl⟩
                    obtain ⟨t1, h_t1⟩ : ∃ t1, (nam L sf).2 = t1 := ⟨_, rfl⟩
                    obtain ⟨t2, h_t2⟩ : ∃ t2, wnt L [58] t1 = t2 := ⟨_, rfl⟩
                    have HNF : Hid (∀ W, Env W g V L sf → Calls Tryd.prog 21 #[rp g] W fun e w' => e = .returned (.string fa) ∧ Env w' g V L t1 ∧ Fr (fun i => i = g) W w') := fun W hW => by
                      have := ident_any W g V L sf hW
                      rw [h_fa, h_t1] at this
                      exact this
                    have HWC : Hid (∀ W, Env W g V L t1 → Calls Tryd.prog 22 #[rp g, .int .i64 4, .string ⟨#[58]⟩] W fun e w' => e = .returned (.tuple #[]) ∧ Env w' g V L t2 ∧ Fr (fun i => i = g) W w') := fun W hW => by
                      have := want_any W g V L t1 4 [58] (.inr ⟨rfl, by decide⟩) hW
                      rw [h_t2] at this
                      exact this
                    cases hb_TI : see L [105, 110, 116] t2
                    · obtain ⟨t3, h_t3⟩ : ∃ t3, wnt L [116, 101, 120, 116] t2 = t3 := ⟨_, rfl⟩
                      have HWT : Hid (∀ W, Env W g V L t2 → Calls Tryd.prog 22 #[rp g, .int .i64 1, .string ⟨#[116, 101, 120, 116]⟩] W fun e w' => e = .returned (.tuple #[]) ∧ Env w' g V L t3 ∧ Fr (fun i => i = g) W w') := fun W hW => by
                        have := want_any W g V L t2 1 [116, 101, 120, 116] (.inl ⟨rfl, by kernel_rfl⟩) hW
                        rw [h_t3] at this
                        exact this
                      have hx : fld' L sf = (⟨fa, 2⟩, t3) := by
                        unfold fld'
                        simp only [h_fa, h_t1, h_t2]
                        rw [if_neg (by rw [hb_TI]; decide), h_t3]
                      rw [hx] at hk2 hsep
                      simp only at hk2 hsep
                      have TI : Hid (∀ W, Env W g V L t2 → Calls Tryd.prog 20 #[rp g, .int .i64 1, .string ⟨#[105, 110, 116]⟩] W fun e w' => e = .returned (.bool false) ∧ Env w' g V L t2 ∧ Fr (fun i => i = g) W w') := fun W hW => by
                        have := is_any W g V L t2 1 [105, 110, 116] (.inl ⟨rfl, by kernel_rfl⟩) hW
                        unfold tks at this
                        rw [hb_TI] at this
                        exact this
                      have HK : Hid (acc.length + k ≤ 700) := hk1
                      cases hb_TO : see L [44] t3
                      · have HEND : Hid ((acc ++ [(⟨fa, 2⟩ : Fd)], t3) = (fs, s3)) := by rw [sep_stop hb_TO] at hsep; exact hsep
                        have TO : Hid (∀ W, Env W g V L t3 → Calls Tryd.prog 20 #[rp g, .int .i64 4, .string ⟨#[44]⟩] W fun e w' => e = .returned (.bool false) ∧ Env w' g V L t3 ∧ Fr (fun i => i = g) W w') := fun W hW => by
                          have := is_any W g V L t3 4 [44] (.inr ⟨rfl, by decide⟩) hW
                          unfold tks at this
                          rw [hb_TO] at this
                          exact this
                        clear hsep hk1 hk2 hx hb_TO hb_TI hac h_fa h_t1 h_t2 h_t3
                        go_wp2_with (first
                          | (go_at_call_of 20 (Value.string ⟨#[44]⟩); refine (TO.out _ PH.out.env).mono ?_; rintro e wi ⟨rfl, he_, hf_⟩; have PI : Hid (Bst w wi g V L t3 R U c0 b (.slice p1 n1 k1) (.slice p2 n2 k2')) := PH.out.call he_ hf_; have HMI : Hid (wi.heap[M]? = some (.cells [.string a, .slice p8 n8 c8].toArray 76 (0, 0))) := (hf_.block _ (blk_lt HMH.out) (by { show ¬ _ = g; have := HGN.out; have := HNM.out; omega })).trans HMH.out; have HRI : Hid (Row wi (fun i => M < i) 80 2 (.slice p8 n8 c8) ((acc ++ [(⟨fa, 2⟩ : Fd)]).map encF)) := HRH.out.mono (fun i hi hl => ⟨hi, hf_.block i hl (by { show ¬ i = g; have h1 : M < i := hi; have := HGN.out; have := HNM.out; omega })⟩); clear he_ hf_)
                          | (at_builtin; refine wp_appS (by rfl) _ _ 74 (by rfl) 80 j0 (.agg #[.string ByteArray.empty, .int .i64 0]) 2 24 Tryd.underlying74 HJ.out.1 HJ.out.2.1 HJ.out.2.2.1 HJ.out.2.2.2 rfl (by omega) (fun i => M < i ∧ i ≠ wr.heap.size) (.slice po no co) (acc.map encF) (by rfl) (Pw7.out.row.alloc _) ⟨by { have h1 := blk_lt Pw7.out.mb; simp; omega }, by { have h1 := blk_lt Pw7.out.fb; simp; omega }⟩ (encF ⟨fa, 2⟩) (fdC fa 2) ⟨w7.heap.size, 0, none⟩ (by rfl) (by rfl) (World.news_of_block (heap_alloc_new _ _)) (by rfl) (.cons (.lit _) (.cons (.lit _) (.nil _ _))) HLA.out (by omega) ?_; intro v5 w8 hrw hgb hown; obtain ⟨p8, c8, e5⟩ := Row.shape hrw; obtain ⟨n8, hn5⟩ : ∃ n8, (acc.map encF ++ [encF ⟨fa, 2⟩]).length = n8 := ⟨_, rfl⟩; rw [hn5] at e5; subst e5; have P8 := Pw7.out.app (x := ⟨fa, 2⟩) _ hgb hown hrw; have f5 := free_of_blk P8.2.2.2 1; have m5 : w8.cell? ⟨M, 1, none⟩ = some (.slice po no co) := by { rw [cell_of_blk P8.2.2.2]; rfl }; have PH : Hid (Bst w (w8.setCell ⟨M, 1, none⟩ (.slice p8 n8 c8)) g V L t3 R U c0 b (.slice p1 n1 k1) (.slice p2 n2 k2')) := P8.1; have HMH : Hid ((w8.setCell ⟨M, 1, none⟩ (.slice p8 n8 c8)).heap[M]? = some (.cells [.string a, .slice p8 n8 c8].toArray 76 (0, 0))) := P8.2.1; have HRH : Hid (Row (w8.setCell ⟨M, 1, none⟩ (.slice p8 n8 c8)) (fun i => M < i) 80 2 (.slice p8 n8 c8) ((acc ++ [(⟨fa, 2⟩ : Fd)]).map encF)) := P8.2.2.1; clear hrw hgb hown hn5 P8)
                          | ((with_reducible show wpList _ _ _ (Oper.mk _ (.load _ _) _ _ _ _ :: _) _ _); refine wp_ld (by rfl) 80 _ (by rfl) wr.heap.size (fdC fa 2) 80 _ (by rfl) Pw7.out.fb Tryd.underlying80 rfl (by kernel_rfl) ?_)
                          | (go_at_call_of 22 (Value.string ⟨#[116, 101, 120, 116]⟩); refine (HWT.out _ Pw6.out.bst.env).mono ?_; rintro e w7 ⟨rfl, he_, hf_⟩; have Pw7 : Hid (Fst w w7 g V L t3 R U c0 b (.slice p1 n1 k1) (.slice p2 n2 k2') M a (.slice po no co) acc wr.heap.size (fdC fa 2)) := Pw6.out.call he_ hf_; have mK := Pw7.out.cell; clear he_ hf_)
                          | ((with_reducible show wpList _ _ _ (Oper.mk _ (.store _ _ _) _ _ _ _ :: _) _ _); refine wp_st (by rfl) 3 _ _ (by rfl) wr.heap.size 1 (fdC fa 1) 80 (.int .i64 2) [(.int .i64 2)] (by rfl) (by rfl) (by rfl) Pw5.out.fb (Nat.le_of_ble_eq_true rfl) (by kernel_rfl) (by rfl) ?_; intro w6 hw_ hf_; have Pw6 : Hid (Fst w w6 g V L t2 R U c0 b (.slice p1 n1 k1) (.slice p2 n2 k2') M a (.slice po no co) acc wr.heap.size (fdC fa 2)) := Pw5.out.st hw_ hf_; clear hw_ hf_)
                          | (go_at_call_of 20 (Value.string ⟨#[105, 110, 116]⟩); refine (TI.out _ Pw4.out.bst.env).mono ?_; rintro e w5 ⟨rfl, he_, hf_⟩; have Pw5 : Hid (Fst w w5 g V L t2 R U c0 b (.slice p1 n1 k1) (.slice p2 n2 k2') M a (.slice po no co) acc wr.heap.size (fdC fa 1)) := Pw4.out.call he_ hf_; clear he_ hf_)
                          | ((with_reducible show wpList _ _ _ (Oper.mk _ (.store _ _ _) _ _ _ _ :: _) _ _); refine wp_st (by rfl) 3 _ _ (by rfl) wr.heap.size 1 (fdC fa 0) 80 (.int .i64 1) [(.int .i64 1)] (by rfl) (by rfl) (by rfl) Pw3.out.fb (Nat.le_of_ble_eq_true rfl) (by kernel_rfl) (by rfl) ?_; intro w4 hw_ hf_; have Pw4 : Hid (Fst w w4 g V L t2 R U c0 b (.slice p1 n1 k1) (.slice p2 n2 k2') M a (.slice po no co) acc wr.heap.size (fdC fa 1)) := Pw3.out.st hw_ hf_; clear hw_ hf_)
                          | (go_at_call_of 22 (Value.string ⟨#[58]⟩); refine (HWC.out _ Pw2.out.bst.env).mono ?_; rintro e w3 ⟨rfl, he_, hf_⟩; have Pw3 : Hid (Fst w w3 g V L t2 R U c0 b (.slice p1 n1 k1) (.slice p2 n2 k2') M a (.slice po no co) acc wr.heap.size (fdC fa 0)) := Pw2.out.call he_ hf_; clear he_ hf_)
                          | ((with_reducible show wpList _ _ _ (Oper.mk _ (.store _ _ _) _ _ _ _ :: _) _ _); refine wp_st (by rfl) 9 _ _ (by rfl) wr.heap.size 0 fd0 80 (.string fa) [(.string fa)] (by rfl) (by rfl) (by rfl) Pw1.out.fb (Nat.le_of_ble_eq_true rfl) (by kernel_rfl) (by rfl) ?_; intro w2 hw_ hf_; have Pw2 : Hid (Fst w w2 g V L t1 R U c0 b (.slice p1 n1 k1) (.slice p2 n2 k2') M a (.slice po no co) acc wr.heap.size (fdC fa 0)) := Pw1.out.st hw_ hf_; clear hw_ hf_)
                          | (go_at_call 21; refine (HNF.out _ PL1.out.bst.env).mono ?_; rintro e w1 ⟨rfl, he_, hf_⟩; have Pw1 : Hid (Fst w w1 g V L t1 R U c0 b (.slice p1 n1 k1) (.slice p2 n2 k2') M a (.slice po no co) acc wr.heap.size fd0) := PL1.out.call he_ hf_; clear he_ hf_))
                        go_roundg k
                        case measure => omega
                        case rel => exact ⟨acc ++ [⟨fa, 2⟩], t3, p8, n8, c8, PI.out, HMI.out, HRI.out, by have := HK.out; simp; omega, .inr ⟨rfl, HEND.out⟩⟩
                      · have hlt := (see_lt hb_TO).2
                        obtain ⟨kk, rfl⟩ : ∃ kk, k = kk + 1 := ⟨k - 1, by omega⟩
                        rw [sep_step hb_TO] at hsep
                        have hg2 := fld'_g L (t3).adv
                        have HK2 : Hid (acc.length + 1 + kk ≤ 700 ∧ L.length ≤ (fld' L (t3).adv).2.i + kk ∧ sep L [44] (fld' L) kk (fld' L (t3).adv).2 (acc ++ [(⟨fa, 2⟩ : Fd)] ++ [(fld' L (t3).adv).1]) = (fs, s3)) := ⟨by omega, by have e1 : (t3).adv.i = (t3).i + 1 := rfl; omega, hsep⟩
                        have TO : Hid (∀ W, Env W g V L t3 → Calls Tryd.prog 20 #[rp g, .int .i64 4, .string ⟨#[44]⟩] W fun e w' => e = .returned (.bool true) ∧ Env w' g V L (t3).adv ∧ Fr (fun i => i = g) W w') := fun W hW => by
                          have := is_any W g V L t3 4 [44] (.inr ⟨rfl, by decide⟩) hW
                          unfold tks at this
                          rw [hb_TO] at this
                          exact this
                        clear hsep hk1 hk2 hx hb_TO hb_TI hac h_fa h_t1 h_t2 h_t3 hlt hg2 HK
                        go_wp2_with (first
                          | (go_at_call_of 20 (Value.string ⟨#[44]⟩); refine (TO.out _ PH.out.env).mono ?_; rintro e wi ⟨rfl, he_, hf_⟩; have PI : Hid (Bst w wi g V L (t3).adv R U c0 b (.slice p1 n1 k1) (.slice p2 n2 k2')) := PH.out.call he_ hf_; have HMI : Hid (wi.heap[M]? = some (.cells [.string a, .slice p8 n8 c8].toArray 76 (0, 0))) := (hf_.block _ (blk_lt HMH.out) (by { show ¬ _ = g; have := HGN.out; have := HNM.out; omega })).trans HMH.out; have HRI : Hid (Row wi (fun i => M < i) 80 2 (.slice p8 n8 c8) ((acc ++ [(⟨fa, 2⟩ : Fd)]).map encF)) := HRH.out.mono (fun i hi hl => ⟨hi, hf_.block i hl (by { show ¬ i = g; have h1 : M < i := hi; have := HGN.out; have := HNM.out; omega })⟩); clear he_ hf_)
                          | (at_builtin; refine wp_appS (by rfl) _ _ 74 (by rfl) 80 j0 (.agg #[.string ByteArray.empty, .int .i64 0]) 2 24 Tryd.underlying74 HJ.out.1 HJ.out.2.1 HJ.out.2.2.1 HJ.out.2.2.2 rfl (by omega) (fun i => M < i ∧ i ≠ wr.heap.size) (.slice po no co) (acc.map encF) (by rfl) (Pw7.out.row.alloc _) ⟨by { have h1 := blk_lt Pw7.out.mb; simp; omega }, by { have h1 := blk_lt Pw7.out.fb; simp; omega }⟩ (encF ⟨fa, 2⟩) (fdC fa 2) ⟨w7.heap.size, 0, none⟩ (by rfl) (by rfl) (World.news_of_block (heap_alloc_new _ _)) (by rfl) (.cons (.lit _) (.cons (.lit _) (.nil _ _))) HLA.out (by omega) ?_; intro v5 w8 hrw hgb hown; obtain ⟨p8, c8, e5⟩ := Row.shape hrw; obtain ⟨n8, hn5⟩ : ∃ n8, (acc.map encF ++ [encF ⟨fa, 2⟩]).length = n8 := ⟨_, rfl⟩; rw [hn5] at e5; subst e5; have P8 := Pw7.out.app (x := ⟨fa, 2⟩) _ hgb hown hrw; have f5 := free_of_blk P8.2.2.2 1; have m5 : w8.cell? ⟨M, 1, none⟩ = some (.slice po no co) := by { rw [cell_of_blk P8.2.2.2]; rfl }; have PH : Hid (Bst w (w8.setCell ⟨M, 1, none⟩ (.slice p8 n8 c8)) g V L t3 R U c0 b (.slice p1 n1 k1) (.slice p2 n2 k2')) := P8.1; have HMH : Hid ((w8.setCell ⟨M, 1, none⟩ (.slice p8 n8 c8)).heap[M]? = some (.cells [.string a, .slice p8 n8 c8].toArray 76 (0, 0))) := P8.2.1; have HRH : Hid (Row (w8.setCell ⟨M, 1, none⟩ (.slice p8 n8 c8)) (fun i => M < i) 80 2 (.slice p8 n8 c8) ((acc ++ [(⟨fa, 2⟩ : Fd)]).map encF)) := P8.2.2.1; clear hrw hgb hown hn5 P8)
                          | ((with_reducible show wpList _ _ _ (Oper.mk _ (.load _ _) _ _ _ _ :: _) _ _); refine wp_ld (by rfl) 80 _ (by rfl) wr.heap.size (fdC fa 2) 80 _ (by rfl) Pw7.out.fb Tryd.underlying80 rfl (by kernel_rfl) ?_)
                          | (go_at_call_of 22 (Value.string ⟨#[116, 101, 120, 116]⟩); refine (HWT.out _ Pw6.out.bst.env).mono ?_; rintro e w7 ⟨rfl, he_, hf_⟩; have Pw7 : Hid (Fst w w7 g V L t3 R U c0 b (.slice p1 n1 k1) (.slice p2 n2 k2') M a (.slice po no co) acc wr.heap.size (fdC fa 2)) := Pw6.out.call he_ hf_; have mK := Pw7.out.cell; clear he_ hf_)
                          | ((with_reducible show wpList _ _ _ (Oper.mk _ (.store _ _ _) _ _ _ _ :: _) _ _); refine wp_st (by rfl) 3 _ _ (by rfl) wr.heap.size 1 (fdC fa 1) 80 (.int .i64 2) [(.int .i64 2)] (by rfl) (by rfl) (by rfl) Pw5.out.fb (Nat.le_of_ble_eq_true rfl) (by kernel_rfl) (by rfl) ?_; intro w6 hw_ hf_; have Pw6 : Hid (Fst w w6 g V L t2 R U c0 b (.slice p1 n1 k1) (.slice p2 n2 k2') M a (.slice po no co) acc wr.heap.size (fdC fa 2)) := Pw5.out.st hw_ hf_; clear hw_ hf_)
                          | (go_at_call_of 20 (Value.string ⟨#[105, 110, 116]⟩); refine (TI.out _ Pw4.out.bst.env).mono ?_; rintro e w5 ⟨rfl, he_, hf_⟩; have Pw5 : Hid (Fst w w5 g V L t2 R U c0 b (.slice p1 n1 k1) (.slice p2 n2 k2') M a (.slice po no co) acc wr.heap.size (fdC fa 1)) := Pw4.out.call he_ hf_; clear he_ hf_)
                          | ((with_reducible show wpList _ _ _ (Oper.mk _ (.store _ _ _) _ _ _ _ :: _) _ _); refine wp_st (by rfl) 3 _ _ (by rfl) wr.heap.size 1 (fdC fa 0) 80 (.int .i64 1) [(.int .i64 1)] (by rfl) (by rfl) (by rfl) Pw3.out.fb (Nat.le_of_ble_eq_true rfl) (by kernel_rfl) (by rfl) ?_; intro w4 hw_ hf_; have Pw4 : Hid (Fst w w4 g V L t2 R U c0 b (.slice p1 n1 k1) (.slice p2 n2 k2') M a (.slice po no co) acc wr.heap.size (fdC fa 1)) := Pw3.out.st hw_ hf_; clear hw_ hf_)
                          | (go_at_call_of 22 (Value.string ⟨#[58]⟩); refine (HWC.out _ Pw2.out.bst.env).mono ?_; rintro e w3 ⟨rfl, he_, hf_⟩; have Pw3 : Hid (Fst w w3 g V L t2 R U c0 b (.slice p1 n1 k1) (.slice p2 n2 k2') M a (.slice po no co) acc wr.heap.size (fdC fa 0)) := Pw2.out.call he_ hf_; clear he_ hf_)
                          | ((with_reducible show wpList _ _ _ (Oper.mk _ (.store _ _ _) _ _ _ _ :: _) _ _); refine wp_st (by rfl) 9 _ _ (by rfl) wr.heap.size 0 fd0 80 (.string fa) [(.string fa)] (by rfl) (by rfl) (by rfl) Pw1.out.fb (Nat.le_of_ble_eq_true rfl) (by kernel_rfl) (by rfl) ?_; intro w2 hw_ hf_; have Pw2 : Hid (Fst w w2 g V L t1 R U c0 b (.slice p1 n1 k1) (.slice p2 n2 k2') M a (.slice po no co) acc wr.heap.size (fdC fa 0)) := Pw1.out.st hw_ hf_; clear hw_ hf_)
                          | (go_at_call 21; refine (HNF.out _ PL1.out.bst.env).mono ?_; rintro e w1 ⟨rfl, he_, hf_⟩; have Pw1 : Hid (Fst w w1 g V L t1 R U c0 b (.slice p1 n1 k1) (.slice p2 n2 k2') M a (.slice po no co) acc wr.heap.size fd0) := PL1.out.call he_ hf_; clear he_ hf_))
                        go_roundg (kk + 1)
                        case measure => omega
                        case rel =>
                          have h2 := HK2.out
                          exact ⟨acc ++ [⟨fa, 2⟩], (t3).adv, p8, n8, c8, PI.out, HMI.out, HRI.out, by simp; omega, .inl ⟨rfl, kk, rfl, by simp; omega, h2.2.1, h2.2.2⟩⟩
                    · have hx : fld' L sf = (⟨fa, 1⟩, t2.adv) := by
                        unfold fld'
                        simp only [h_fa, h_t1, h_t2]
                        rw [if_pos hb_TI]
                      rw [hx] at hk2 hsep
                      simp only at hk2 hsep
                      have TI : Hid (∀ W, Env W g V L t2 → Calls Tryd.prog 20 #[rp g, .int .i64 1, .string ⟨#[105, 110, 116]⟩] W fun e w' => e = .returned (.bool true) ∧ Env w' g V L t2.adv ∧ Fr (fun i => i = g) W w') := fun W hW => by
                        have := is_any W g V L t2 1 [105, 110, 116] (.inl ⟨rfl, by kernel_rfl⟩) hW
                        unfold tks at this
                        rw [hb_TI] at this
                        exact this
                      have HK : Hid (acc.length + k ≤ 700) := hk1
                      cases hb_TO : see L [44] t2.adv
                      · have HEND : Hid ((acc ++ [(⟨fa, 1⟩ : Fd)], t2.adv) = (fs, s3)) := by rw [sep_stop hb_TO] at hsep; exact hsep
                        have TO : Hid (∀ W, Env W g V L t2.adv → Calls Tryd.prog 20 #[rp g, .int .i64 4, .string ⟨#[44]⟩] W fun e w' => e = .returned (.bool false) ∧ Env w' g V L t2.adv ∧ Fr (fun i => i = g) W w') := fun W hW => by
                          have := is_any W g V L t2.adv 4 [44] (.inr ⟨rfl, by decide⟩) hW
                          unfold tks at this
                          rw [hb_TO] at this
                          exact this
                        clear hsep hk1 hk2 hx hb_TO hb_TI hac h_fa h_t1 h_t2
                        go_wp2_with (first
                          | (go_at_call_of 20 (Value.string ⟨#[44]⟩); refine (TO.out _ PH.out.env).mono ?_; rintro e wi ⟨rfl, he_, hf_⟩; have PI : Hid (Bst w wi g V L t2.adv R U c0 b (.slice p1 n1 k1) (.slice p2 n2 k2')) := PH.out.call he_ hf_; have HMI : Hid (wi.heap[M]? = some (.cells [.string a, .slice p8 n8 c8].toArray 76 (0, 0))) := (hf_.block _ (blk_lt HMH.out) (by { show ¬ _ = g; have := HGN.out; have := HNM.out; omega })).trans HMH.out; have HRI : Hid (Row wi (fun i => M < i) 80 2 (.slice p8 n8 c8) ((acc ++ [(⟨fa, 1⟩ : Fd)]).map encF)) := HRH.out.mono (fun i hi hl => ⟨hi, hf_.block i hl (by { show ¬ i = g; have h1 : M < i := hi; have := HGN.out; have := HNM.out; omega })⟩); clear he_ hf_)
                          | (at_builtin; refine wp_appS (by rfl) _ _ 74 (by rfl) 80 j0 (.agg #[.string ByteArray.empty, .int .i64 0]) 2 24 Tryd.underlying74 HJ.out.1 HJ.out.2.1 HJ.out.2.2.1 HJ.out.2.2.2 rfl (by omega) (fun i => M < i ∧ i ≠ wr.heap.size) (.slice po no co) (acc.map encF) (by rfl) (Pw5.out.row.alloc _) ⟨by { have h1 := blk_lt Pw5.out.mb; simp; omega }, by { have h1 := blk_lt Pw5.out.fb; simp; omega }⟩ (encF ⟨fa, 1⟩) (fdC fa 1) ⟨w5.heap.size, 0, none⟩ (by rfl) (by rfl) (World.news_of_block (heap_alloc_new _ _)) (by rfl) (.cons (.lit _) (.cons (.lit _) (.nil _ _))) HLA.out (by omega) ?_; intro v5 w8 hrw hgb hown; obtain ⟨p8, c8, e5⟩ := Row.shape hrw; obtain ⟨n8, hn5⟩ : ∃ n8, (acc.map encF ++ [encF ⟨fa, 1⟩]).length = n8 := ⟨_, rfl⟩; rw [hn5] at e5; subst e5; have P8 := Pw5.out.app (x := ⟨fa, 1⟩) _ hgb hown hrw; have f5 := free_of_blk P8.2.2.2 1; have m5 : w8.cell? ⟨M, 1, none⟩ = some (.slice po no co) := by { rw [cell_of_blk P8.2.2.2]; rfl }; have PH : Hid (Bst w (w8.setCell ⟨M, 1, none⟩ (.slice p8 n8 c8)) g V L t2.adv R U c0 b (.slice p1 n1 k1) (.slice p2 n2 k2')) := P8.1; have HMH : Hid ((w8.setCell ⟨M, 1, none⟩ (.slice p8 n8 c8)).heap[M]? = some (.cells [.string a, .slice p8 n8 c8].toArray 76 (0, 0))) := P8.2.1; have HRH : Hid (Row (w8.setCell ⟨M, 1, none⟩ (.slice p8 n8 c8)) (fun i => M < i) 80 2 (.slice p8 n8 c8) ((acc ++ [(⟨fa, 1⟩ : Fd)]).map encF)) := P8.2.2.1; clear hrw hgb hown hn5 P8)
                          | ((with_reducible show wpList _ _ _ (Oper.mk _ (.load _ _) _ _ _ _ :: _) _ _); refine wp_ld (by rfl) 80 _ (by rfl) wr.heap.size (fdC fa 1) 80 _ (by rfl) Pw5.out.fb Tryd.underlying80 rfl (by kernel_rfl) ?_)
                          | (go_at_call_of 20 (Value.string ⟨#[105, 110, 116]⟩); refine (TI.out _ Pw4.out.bst.env).mono ?_; rintro e w5 ⟨rfl, he_, hf_⟩; have Pw5 : Hid (Fst w w5 g V L t2.adv R U c0 b (.slice p1 n1 k1) (.slice p2 n2 k2') M a (.slice po no co) acc wr.heap.size (fdC fa 1)) := Pw4.out.call he_ hf_; have mK := Pw5.out.cell; clear he_ hf_)
                          | ((with_reducible show wpList _ _ _ (Oper.mk _ (.store _ _ _) _ _ _ _ :: _) _ _); refine wp_st (by rfl) 3 _ _ (by rfl) wr.heap.size 1 (fdC fa 0) 80 (.int .i64 1) [(.int .i64 1)] (by rfl) (by rfl) (by rfl) Pw3.out.fb (Nat.le_of_ble_eq_true rfl) (by kernel_rfl) (by rfl) ?_; intro w4 hw_ hf_; have Pw4 : Hid (Fst w w4 g V L t2 R U c0 b (.slice p1 n1 k1) (.slice p2 n2 k2') M a (.slice po no co) acc wr.heap.size (fdC fa 1)) := Pw3.out.st hw_ hf_; clear hw_ hf_)
                          | (go_at_call_of 22 (Value.string ⟨#[58]⟩); refine (HWC.out _ Pw2.out.bst.env).mono ?_; rintro e w3 ⟨rfl, he_, hf_⟩; have Pw3 : Hid (Fst w w3 g V L t2 R U c0 b (.slice p1 n1 k1) (.slice p2 n2 k2') M a (.slice po no co) acc wr.heap.size (fdC fa 0)) := Pw2.out.call he_ hf_; clear he_ hf_)
                          | ((with_reducible show wpList _ _ _ (Oper.mk _ (.store _ _ _) _ _ _ _ :: _) _ _); refine wp_st (by rfl) 9 _ _ (by rfl) wr.heap.size 0 fd0 80 (.string fa) [(.string fa)] (by rfl) (by rfl) (by rfl) Pw1.out.fb (Nat.le_of_ble_eq_true rfl) (by kernel_rfl) (by rfl) ?_; intro w2 hw_ hf_; have Pw2 : Hid (Fst w w2 g V L t1 R U c0 b (.slice p1 n1 k1) (.slice p2 n2 k2') M a (.slice po no co) acc wr.heap.size (fdC fa 0)) := Pw1.out.st hw_ hf_; clear hw_ hf_)
                          | (go_at_call 21; refine (HNF.out _ PL1.out.bst.env).mono ?_; rintro e w1 ⟨rfl, he_, hf_⟩; have Pw1 : Hid (Fst w w1 g V L t1 R U c0 b (.slice p1 n1 k1) (.slice p2 n2 k2') M a (.slice po no co) acc wr.heap.size fd0) := PL1.out.call he_ hf_; clear he_ hf_))
                        go_roundg k
                        case measure => omega
                        case rel => exact ⟨acc ++ [⟨fa, 1⟩], t2.adv, p8, n8, c8, PI.out, HMI.out, HRI.out, by have := HK.out; simp; omega, .inr ⟨rfl, HEND.out⟩⟩
                      · have hlt := (see_lt hb_TO).2
                        obtain ⟨kk, rfl⟩ : ∃ kk, k = kk + 1 := ⟨k - 1, by omega⟩
                        rw [sep_step hb_TO] at hsep
                        have hg2 := fld'_g L (t2.adv).adv
                        have HK2 : Hid (acc.length + 1 + kk ≤ 700 ∧ L.length ≤ (fld' L (t2.adv).adv).2.i + kk ∧ sep L [44] (fld' L) kk (fld' L (t2.adv).adv).2 (acc ++ [(⟨fa, 1⟩ : Fd)] ++ [(fld' L (t2.adv).adv).1]) = (fs, s3)) := ⟨by omega, by have e1 : (t2.adv).adv.i = (t2.adv).i + 1 := rfl; omega, hsep⟩
                        have TO : Hid (∀ W, Env W g V L t2.adv → Calls Tryd.prog 20 #[rp g, .int .i64 4, .string ⟨#[44]⟩] W fun e w' => e = .returned (.bool true) ∧ Env w' g V L (t2.adv).adv ∧ Fr (fun i => i = g) W w') := fun W hW => by
                          have := is_any W g V L t2.adv 4 [44] (.inr ⟨rfl, by decide⟩) hW
                          unfold tks at this
                          rw [hb_TO] at this
                          exact this
                        clear hsep hk1 hk2 hx hb_TO hb_TI hac h_fa h_t1 h_t2 hlt hg2 HK
                        go_wp2_with (first
                          | (go_at_call_of 20 (Value.string ⟨#[44]⟩); refine (TO.out _ PH.out.env).mono ?_; rintro e wi ⟨rfl, he_, hf_⟩; have PI : Hid (Bst w wi g V L (t2.adv).adv R U c0 b (.slice p1 n1 k1) (.slice p2 n2 k2')) := PH.out.call he_ hf_; have HMI : Hid (wi.heap[M]? = some (.cells [.string a, .slice p8 n8 c8].toArray 76 (0, 0))) := (hf_.block _ (blk_lt HMH.out) (by { show ¬ _ = g; have := HGN.out; have := HNM.out; omega })).trans HMH.out; have HRI : Hid (Row wi (fun i => M < i) 80 2 (.slice p8 n8 c8) ((acc ++ [(⟨fa, 1⟩ : Fd)]).map encF)) := HRH.out.mono (fun i hi hl => ⟨hi, hf_.block i hl (by { show ¬ i = g; have h1 : M < i := hi; have := HGN.out; have := HNM.out; omega })⟩); clear he_ hf_)
                          | (at_builtin; refine wp_appS (by rfl) _ _ 74 (by rfl) 80 j0 (.agg #[.string ByteArray.empty, .int .i64 0]) 2 24 Tryd.underlying74 HJ.out.1 HJ.out.2.1 HJ.out.2.2.1 HJ.out.2.2.2 rfl (by omega) (fun i => M < i ∧ i ≠ wr.heap.size) (.slice po no co) (acc.map encF) (by rfl) (Pw5.out.row.alloc _) ⟨by { have h1 := blk_lt Pw5.out.mb; simp; omega }, by { have h1 := blk_lt Pw5.out.fb; simp; omega }⟩ (encF ⟨fa, 1⟩) (fdC fa 1) ⟨w5.heap.size, 0, none⟩ (by rfl) (by rfl) (World.news_of_block (heap_alloc_new _ _)) (by rfl) (.cons (.lit _) (.cons (.lit _) (.nil _ _))) HLA.out (by omega) ?_; intro v5 w8 hrw hgb hown; obtain ⟨p8, c8, e5⟩ := Row.shape hrw; obtain ⟨n8, hn5⟩ : ∃ n8, (acc.map encF ++ [encF ⟨fa, 1⟩]).length = n8 := ⟨_, rfl⟩; rw [hn5] at e5; subst e5; have P8 := Pw5.out.app (x := ⟨fa, 1⟩) _ hgb hown hrw; have f5 := free_of_blk P8.2.2.2 1; have m5 : w8.cell? ⟨M, 1, none⟩ = some (.slice po no co) := by { rw [cell_of_blk P8.2.2.2]; rfl }; have PH : Hid (Bst w (w8.setCell ⟨M, 1, none⟩ (.slice p8 n8 c8)) g V L t2.adv R U c0 b (.slice p1 n1 k1) (.slice p2 n2 k2')) := P8.1; have HMH : Hid ((w8.setCell ⟨M, 1, none⟩ (.slice p8 n8 c8)).heap[M]? = some (.cells [.string a, .slice p8 n8 c8].toArray 76 (0, 0))) := P8.2.1; have HRH : Hid (Row (w8.setCell ⟨M, 1, none⟩ (.slice p8 n8 c8)) (fun i => M < i) 80 2 (.slice p8 n8 c8) ((acc ++ [(⟨fa, 1⟩ : Fd)]).map encF)) := P8.2.2.1; clear hrw hgb hown hn5 P8)
                          | ((with_reducible show wpList _ _ _ (Oper.mk _ (.load _ _) _ _ _ _ :: _) _ _); refine wp_ld (by rfl) 80 _ (by rfl) wr.heap.size (fdC fa 1) 80 _ (by rfl) Pw5.out.fb Tryd.underlying80 rfl (by kernel_rfl) ?_)
                          | (go_at_call_of 20 (Value.string ⟨#[105, 110, 116]⟩); refine (TI.out _ Pw4.out.bst.env).mono ?_; rintro e w5 ⟨rfl, he_, hf_⟩; have Pw5 : Hid (Fst w w5 g V L t2.adv R U c0 b (.slice p1 n1 k1) (.slice p2 n2 k2') M a (.slice po no co) acc wr.heap.size (fdC fa 1)) := Pw4.out.call he_ hf_; have mK := Pw5.out.cell; clear he_ hf_)
                          | ((with_reducible show wpList _ _ _ (Oper.mk _ (.store _ _ _) _ _ _ _ :: _) _ _); refine wp_st (by rfl) 3 _ _ (by rfl) wr.heap.size 1 (fdC fa 0) 80 (.int .i64 1) [(.int .i64 1)] (by rfl) (by rfl) (by rfl) Pw3.out.fb (Nat.le_of_ble_eq_true rfl) (by kernel_rfl) (by rfl) ?_; intro w4 hw_ hf_; have Pw4 : Hid (Fst w w4 g V L t2 R U c0 b (.slice p1 n1 k1) (.slice p2 n2 k2') M a (.slice po no co) acc wr.heap.size (fdC fa 1)) := Pw3.out.st hw_ hf_; clear hw_ hf_)
                          | (go_at_call_of 22 (Value.string ⟨#[58]⟩); refine (HWC.out _ Pw2.out.bst.env).mono ?_; rintro e w3 ⟨rfl, he_, hf_⟩; have Pw3 : Hid (Fst w w3 g V L t2 R U c0 b (.slice p1 n1 k1) (.slice p2 n2 k2') M a (.slice po no co) acc wr.heap.size (fdC fa 0)) := Pw2.out.call he_ hf_; clear he_ hf_)
                          | ((with_reducible show wpList _ _ _ (Oper.mk _ (.store _ _ _) _ _ _ _ :: _) _ _); refine wp_st (by rfl) 9 _ _ (by rfl) wr.heap.size 0 fd0 80 (.string fa) [(.string fa)] (by rfl) (by rfl) (by rfl) Pw1.out.fb (Nat.le_of_ble_eq_true rfl) (by kernel_rfl) (by rfl) ?_; intro w2 hw_ hf_; have Pw2 : Hid (Fst w w2 g V L t1 R U c0 b (.slice p1 n1 k1) (.slice p2 n2 k2') M a (.slice po no co) acc wr.heap.size (fdC fa 0)) := Pw1.out.st hw_ hf_; clear hw_ hf_)
                          | (go_at_call 21; refine (HNF.out _ PL1.out.bst.env).mono ?_; rintro e w1 ⟨rfl, he_, hf_⟩; have Pw1 : Hid (Fst w w1 g V L t1 R U c0 b (.slice p1 n1 k1) (.slice p2 n2 k2') M a (.slice po no co) acc wr.heap.size fd0) := PL1.out.call he_ hf_; clear he_ hf_))
                        go_roundg (kk + 1)
                        case measure => omega
                        case rel =>
                          have h2 := HK2.out
                          exact ⟨acc ++ [⟨fa, 1⟩], (t2.adv).adv, p8, n8, c8, PI.out, HMI.out, HRI.out, by simp; omega, .inl ⟨rfl, kk, rfl, by simp; omega, h2.2.1, h2.2.2⟩⟩
                  ·
                    simp only [Prod.mk.injEq] at he
                    obtain ⟨rfl, rfl⟩ := he
                    have HH0 : Hid (Holds wr (fun i => M < i) (.row 80 2 (acc.map encF)) (.slice po no co)) := HRW.out.holds
                    clear hac HRW HJ
                    go_wp2_with (first
                        | (at_builtin; refine wp_appS (by rfl) _ _ 23 (by rfl) 76 i0 (.agg #[.string ByteArray.empty, .slice none 0 0]) 2 40 Tryd.underlying23 HI.out.1 HI.out.2.1 HI.out.2.2.1 HI.out.2.2.2 rfl (by omega) (Cq (g + 1) (pcol2 c0 M M 1) 1) (.slice p1 n1 k1) (b.t.map encY) (by rfl) (PC.out.r1.alloc _) (HSZ.out _) (encY ⟨a, acc⟩) [.string a, (.slice po no co)] ⟨wz.heap.size, 0, none⟩ (by rfl) (by rfl) (World.news_of_block (heap_alloc_new _ _)) (by rfl) ((holdsY (t := ⟨a, acc⟩) (HHF.out.mono (fun i hi _ => ⟨⟨⟨by { have h1 : M < i := hi; have := HGN.out; have := HNM.out; omega }, pcol2_new (by { have h1 : M < i := hi; omega }) (by { have h1 : M < i := hi; omega })⟩, fun e => by { have h2 := HOW.out _ e; have h1 : M < i := hi; have := HNM.out; omega }⟩, rfl⟩))).on ((Fr.refl _ _).alloc _)) HLN.out (by omega) ?_; intro v5 w5 hrw hgb hown; obtain ⟨p5, cap5, e5⟩ := Row.shape hrw; obtain ⟨n5, hn5⟩ : ∃ n5, (b.t.map encY ++ [encY ⟨a, acc⟩]).length = n5 := ⟨_, rfl⟩; rw [hn5] at e5; subst e5; have HU5 : Hid (w5.heap[U]? = some (.cells [(.slice p1 n1 k1), (.slice p2 n2 k2')].toArray 26 (0, 0))) := (hgb.block U (by { have := blk_lt (PC.out.alloc (.cells [.string a, (.slice po no co)].toArray 76)).blk; exact this }) (fun e => by { have h1 := (hown _ e.symm).1; have h2 := PC.out.lo; omega })).trans (PC.out.alloc (.cells [.string a, (.slice po no co)].toArray 76)).blk; have f5 := free_of_blk HU5.out 0; have c5 : w5.cell? ⟨U, 0, none⟩ = some (.slice p1 n1 k1) := by { rw [cell_of_blk HU5.out]; rfl }; have P5 : Hid (Bst w (w5.setCell ⟨U, 0, none⟩ (.slice p5 n5 cap5)) g V L s4 R U (pcol2 c0 M M 1) ⟨b.t ++ [⟨a, acc⟩], b.r⟩ (.slice p5 n5 cap5) (.slice p2 n2 k2')) := (PC.out.alloc (.cells [.string a, (.slice po no co)].toArray 76)).app1 hgb hown hrw; clear hrw hgb hown hn5)
                        | ((with_reducible show wpList _ _ _ (Oper.mk _ (.load _ _) _ _ _ _ :: _) _ _); refine wp_ld (by rfl) 76 _ (by rfl) M [.string a, (.slice po no co)] 76 _ (by rfl) HMF.out Tryd.underlying76 rfl (by kernel_rfl) ?_)
                        | (go_at_call_of 22 (Value.string ⟨#[125]⟩); refine (HW4.out _ PL.out.env).mono ?_; rintro e wz ⟨rfl, he_, hf_⟩; have PZ : Hid (Bst w wz g V L s4 R U c0 b (.slice p1 n1 k1) (.slice p2 n2 k2')) := PL.out.call he_ hf_; have HMF : Hid (wz.heap[M]? = some (.cells [.string a, .slice po no co].toArray 76 (0, 0))) := (hf_.block _ (blk_lt HML.out) (by { show ¬ _ = g; have := HGN.out; have := HNM.out; omega })).trans HML.out; have HHF : Hid (Holds wz (fun i => M < i) (.row 80 2 (acc.map encF)) (.slice po no co)) := HH0.out.mono (fun i hi hl => ⟨hi, hf_.block i hl (by { have h1 : M < i := hi; show ¬ i = g; have := HGN.out; have := HNM.out; omega })⟩); have PC : Hid (Bst w wz g V L s4 R U (pcol2 c0 M M 1) b (.slice p1 n1 k1) (.slice p2 n2 k2')) := PZ.out.recol (fun i _ h1 _ => pcol2_old HC0.out HNM.out h1); have HSZ : Hid (∀ o, Cq (g + 1) (pcol2 c0 M M 1) 1 (wz.alloc o).heap.size) := fun o => ⟨by { have h2 := blk_lt HMF.out; have := HGN.out; have := HNM.out; simp; omega }, pcol2_new (by { have h2 := blk_lt HMF.out; simp; omega }) (by { have h2 := blk_lt HMF.out; simp; omega })⟩; have cU : wz.cell? ⟨U, 0, none⟩ = some (.slice p1 n1 k1) := PZ.out.cell 0; clear he_ hf_))
                    go_roundg k2
                    case measure => omega
                    case rel => exact ⟨⟨b.t ++ [⟨a, acc⟩], b.r⟩, s4, _, _, _, P5.out, HBP.out.1, HBP.out.2.1, by have := HBP.out.2.2.1; simp only [List.length_append, List.length_singleton]; omega, HBP.out.2.2.2⟩
              ·
                obtain ⟨sE, h_sE⟩ : ∃ sE, s2.adv = sE := ⟨_, rfl⟩
                have htp : typ' L st.adv = (⟨a, []⟩, sE) := by
                  unfold typ' lst
                  simp only [h_a, h_s1, h_s2]
                  rw [if_pos hb_T3, h_sE]
                have hgd := typ'_g L st.adv
                rw [htp] at hbp hgd
                simp only at hbp hgd
                have e1 : st.adv.i = st.i + 1 := rfl
                have e2 : st.adv.o = st.o := rfl
                have HBP : Hid (bkp' L k2 ⟨b.t ++ [⟨a, []⟩], b.r⟩ sE = F ∧ (sE.e = 0 ∧ sE.i < L.length → L.length ≤ sE.i + k2) ∧ b.t.length + b.r.length + 1 ≤ sE.i ∧ sE.o = 0) := ⟨hbp, fun _ => by have := hk hin; omega, by omega, by omega⟩
                rw [← h_sE] at HBP
                have T3 : Hid (∀ W, Env W g V L s2 → Calls Tryd.prog 20 #[rp g, .int .i64 4, .string ⟨#[125]⟩] W fun e w' => e = .returned (.bool true) ∧ Env w' g V L s2.adv ∧ Fr (fun i => i = g) W w') := fun W hW => by
                  have := is_any W g V L s2 4 [125] (.inr ⟨rfl, by decide⟩) hW
                  unfold tks at this
                  rw [hb_T3] at this
                  exact this
                clear htp hgd e1 e2 hbp hk hlen ho hin h_a h_s1 h_s2 h_sE hb_T1 hb_T3
                go_wp2_with (first
                    | (at_builtin; refine wp_appS (by rfl) _ _ 23 (by rfl) 76 i0 (.agg #[.string ByteArray.empty, .slice none 0 0]) 2 40 Tryd.underlying23 HI.out.1 HI.out.2.1 HI.out.2.2.1 HI.out.2.2.2 rfl (by omega) (Cq (g + 1) (pcol2 c0 wa.heap.size wa.heap.size 1) 1) (.slice p1 n1 k1) (b.t.map encY) (by rfl) (PC.out.r1.alloc _) (HSZ.out _) (encY ⟨a, []⟩) [.string a, (.slice none 0 0)] ⟨wf.heap.size, 0, none⟩ (by rfl) (by rfl) (World.news_of_block (heap_alloc_new _ _)) (by rfl) ((holdsY (t := ⟨a, []⟩) (HHF.out.mono (fun i hi _ => ⟨⟨⟨by { have h1 : wa.heap.size < i := hi; have := HGN.out; have := HNM.out; omega }, pcol2_new (by { have h1 : wa.heap.size < i := hi; omega }) (by { have h1 : wa.heap.size < i := hi; omega })⟩, fun e => by { have h2 := HOW.out _ e; have h1 : wa.heap.size < i := hi; have := HNM.out; omega }⟩, rfl⟩))).on ((Fr.refl _ _).alloc _)) HLN.out (by omega) ?_; intro v5 w5 hrw hgb hown; obtain ⟨p5, cap5, e5⟩ := Row.shape hrw; obtain ⟨n5, hn5⟩ : ∃ n5, (b.t.map encY ++ [encY ⟨a, []⟩]).length = n5 := ⟨_, rfl⟩; rw [hn5] at e5; subst e5; have HU5 : Hid (w5.heap[U]? = some (.cells [(.slice p1 n1 k1), (.slice p2 n2 k2')].toArray 26 (0, 0))) := (hgb.block U (by { have := blk_lt (PC.out.alloc (.cells [.string a, (.slice none 0 0)].toArray 76)).blk; exact this }) (fun e => by { have h1 := (hown _ e.symm).1; have h2 := PC.out.lo; omega })).trans (PC.out.alloc (.cells [.string a, (.slice none 0 0)].toArray 76)).blk; have f5 := free_of_blk HU5.out 0; have c5 : w5.cell? ⟨U, 0, none⟩ = some (.slice p1 n1 k1) := by { rw [cell_of_blk HU5.out]; rfl }; have P5 : Hid (Bst w (w5.setCell ⟨U, 0, none⟩ (.slice p5 n5 cap5)) g V L s2.adv R U (pcol2 c0 wa.heap.size wa.heap.size 1) ⟨b.t ++ [⟨a, []⟩], b.r⟩ (.slice p5 n5 cap5) (.slice p2 n2 k2')) := (PC.out.alloc (.cells [.string a, (.slice none 0 0)].toArray 76)).app1 hgb hown hrw; clear hrw hgb hown hn5)
                    | ((with_reducible show wpList _ _ _ (Oper.mk _ (.load _ _) _ _ _ _ :: _) _ _); refine wp_ld (by rfl) 76 _ (by rfl) wa.heap.size [.string a, (.slice none 0 0)] 76 _ (by rfl) HMF.out Tryd.underlying76 rfl (by kernel_rfl) ?_)
                    | (go_at_call_of 20 (Value.string ⟨#[125]⟩); refine (T3.out _ PE.out.env).mono ?_; rintro e wf ⟨rfl, he_, hf_⟩; have PF : Hid (Bst w wf g V L s2.adv R U c0 b (.slice p1 n1 k1) (.slice p2 n2 k2')) := PE.out.call he_ hf_; have HM4 : Hid (wf.heap[wa.heap.size]? = some (.cells [.string a, .slice none 0 0].toArray 76 (0, 0))) := (hf_.block _ (blk_lt HM3.out) (by { show ¬ _ = g; have := HWA.out; have := HGN.out; omega })).trans HM3.out; have HNM : Hid (N0 ≤ wa.heap.size) := HWA.out; have HMF : Hid (wf.heap[wa.heap.size]? = some (.cells [.string a, .slice none 0 0].toArray 76 (0, 0))) := HM4.out; have HHF : Hid (Holds wf (fun i => wa.heap.size < i) (.row 80 2 (([] : List Fd).map encF)) (.slice none 0 0)) := (Row.nil _ _ _ _).holds; have PC : Hid (Bst w wf g V L s2.adv R U (pcol2 c0 wa.heap.size wa.heap.size 1) b (.slice p1 n1 k1) (.slice p2 n2 k2')) := PF.out.recol (fun i _ h1 _ => pcol2_old HC0.out HNM.out h1); have HSZ : Hid (∀ o, Cq (g + 1) (pcol2 c0 wa.heap.size wa.heap.size 1) 1 (wf.alloc o).heap.size) := fun o => ⟨by { have h2 := blk_lt HMF.out; have := HGN.out; have := HNM.out; simp; omega }, pcol2_new (by { have h2 := blk_lt HMF.out; simp; omega }) (by { have h2 := blk_lt HMF.out; simp; omega })⟩; have cU : wf.cell? ⟨U, 0, none⟩ = some (.slice p1 n1 k1) := PF.out.cell 0; clear he_ hf_)
                    | (go_at_call_of 22 (Value.string ⟨#[123]⟩); refine (HW1.out _ PD.out.env).mono ?_; rintro e we ⟨rfl, he_, hf_⟩; have PE : Hid (Bst w we g V L s2 R U c0 b (.slice p1 n1 k1) (.slice p2 n2 k2')) := PD.out.call he_ hf_; have HM3 : Hid (we.heap[wa.heap.size]? = some (.cells [.string a, .slice none 0 0].toArray 76 (0, 0))) := (hf_.block _ (blk_lt HM2.out) (by { show ¬ _ = g; have := HWA.out; have := HGN.out; omega })).trans HM2.out; clear he_ hf_)
                    | ((with_reducible show wpList _ _ _ (Oper.mk _ (.store _ _ _) _ _ _ _ :: _) _ _); refine wp_st (by rfl) 9 _ _ (by rfl) wa.heap.size 0 [.string (txt []), .slice none 0 0] 76 (.string a) [.string a] (by rfl) (by rfl) (by rfl) HM1.out (Nat.le_of_ble_eq_true rfl) (by kernel_rfl) (by rfl) ?_; intro wd hw_ hf_; have HM2 : Hid (wd.heap[wa.heap.size]? = some (.cells [.string a, .slice none 0 0].toArray 76 (0, 0))) := hw_; have PD : Hid (Bst w wd g V L s1 R U c0 b (.slice p1 n1 k1) (.slice p2 n2 k2')) := PCc.out.st hf_ (HC0.out _ HWA.out) (by { have := HWA.out; have := HGN.out; omega }); clear hw_ hf_)
                    | (go_at_call 21; refine (HNA.out _ PA1.out.env).mono ?_; rintro e wc ⟨rfl, he_, hf_⟩; have PCc : Hid (Bst w wc g V L s1 R U c0 b (.slice p1 n1 k1) (.slice p2 n2 k2')) := PA1.out.call he_ hf_; have HM1 : Hid (wc.heap[wa.heap.size]? = some (.cells [.string (txt []), .slice none 0 0].toArray 76 (0, 0))) := (hf_.block _ (by { simp }) (by { show ¬ _ = g; have := HWA.out; have := HGN.out; omega })).trans (heap_alloc_new _ _); clear he_ hf_)
                    | (go_at_call_of 20 (Value.string ⟨#[116, 121, 112, 101]⟩); refine (T1.out _ PB.out.env).mono ?_; rintro e wa ⟨rfl, he_, hf_⟩; have PA : Hid (Bst w wa g V L st.adv R U c0 b (.slice p1 n1 k1) (.slice p2 n2 k2')) := PB.out.call he_ hf_; have PA1 : Hid (Bst w (wa.alloc (.cells [.string (txt []), .slice none 0 0].toArray 76)) g V L st.adv R U c0 b (.slice p1 n1 k1) (.slice p2 n2 k2')) := PA.out.alloc _; have HWA : Hid (N0 ≤ wa.heap.size) := Nat.le_trans (Nat.le_of_eq HN0.out.symm) hf_.size; clear he_ hf_))
                go_roundg k2
                case measure => omega
                case rel => exact ⟨⟨b.t ++ [⟨a, []⟩], b.r⟩, s2.adv, _, _, _, P5.out, HBP.out.1, HBP.out.2.1, by have := HBP.out.2.2.1; simp only [List.length_append, List.length_singleton]; omega, HBP.out.2.2.2⟩
          · rw [bkp'_end hin] at hbp
            subst hbp
            by_cases he : st.e = 0
            · have hw9 : (st.e != 0) = false := by simpa using he
              have hb0 : (st.e == 0) = true := by simpa using he
              have hb2 : ¬ (st.i : Int) < (k : Int) := by have := HN.out; omega
              have hb3 : decide ((st.i : Int) < (k : Int)) = false := by simpa using hb2
              have HQ : Hid ((b, 0, 0) = A) := by have := HP3.out; rw [if_pos he] at this; exact this
              clear he hk hlen ho hin
              go_wp2_with (first
                | ((with_reducible show wpList _ _ _ (Oper.mk _ (.load _ _) _ _ _ _ :: _) _ _); refine wp_ld (by rfl) 26 _ (by rfl) U [(.slice p1 n1 k1), (.slice p2 n2 k2')] 26 _ (by rfl) PB.out.blk Tryd.underlying26 rfl (by kernel_rfl) ?_)
                | ((with_reducible show wpList _ _ _ (Oper.mk _ (.store _ _ _) _ _ _ _ :: _) _ _); refine wp_st (by rfl) 26 _ _ (by rfl) R 0 bk0 26 (.agg #[(.slice p1 n1 k1), (.slice p2 n2 k2')]) [(.slice p1 n1 k1), (.slice p2 n2 k2')] (by rfl) (by rfl) (by rfl) PB.out.res (Nat.le_of_ble_eq_true rfl) (by kernel_rfl) (by rfl) ?_; intro w9 hw9' hf9; have HW9 : Hid (w9.heap[R]? = some (.cells [(.slice p1 n1 k1), (.slice p2 n2 k2')].toArray 26 (0, 0)) ∧ Fr (fun _ => False) w w9 ∧ HoldsL w9 (fun i => w.heap.size ≤ i) (encB b) [(.slice p1 n1 k1), (.slice p2 n2 k2')]) := ⟨hw9', PB.out.fr.stored hf9 (.inr PB.out.lo.1), PB.out.outB hf9⟩; clear hw9' hf9))
              refine ret3_loc R [(.slice p1 n1 k1), (.slice p2 n2 k2')] 26 _ (.int .i64 0) (.int .i64 0) HW9.out.1 rfl rfl (by rfl) Tryd.underlying26 rfl (by kernel_rfl) (by rfl) (by rfl) ?_
              rw [← HQ.out]
              have hz1 : n1 = b.t.length := by rw [← HL1.out, List.length_map]
              have hz2 : n2 = b.r.length := by rw [← HL2.out, List.length_map]
              have h9 := HW9.out.2.2
              have h8 := HW9.out.2.1
              subst hz1 hz2
              exact ⟨p1, k1, p2, k2', rfl, h9, h8.below⟩
            · have hw9 : (st.e != 0) = true := by simpa using he
              have hb0 : (st.e == 0) = false := by simpa using he
              have HQ : Hid ((⟨[], []⟩, st.i, st.e) = A) := by have := HP3.out; rw [if_neg he] at this; exact this
              have zr := PB.out.res
              have r0 := cell_of_blk zr 0
              have r1 := cell_of_blk zr 1
              have f0 := free_of_blk zr 0
              have f1 := free_of_blk zr 1
              simp [bk0] at r0 r1
              have hne1 : ¬ R = g := by have := PB.out.lo; omega
              have hne2 : ¬ g = R := by omega
              clear he hk hlen ho hin zr
              go_wp2_with fail
              go_region
              all_goals (try go_wp2_with fail)
              all_goals
                have hq : ((wr.setCells R 0 [.slice none 0 0, .slice none 0 0]).drew).heap[R]? = some (.cells #[.slice none 0 0, .slice none 0 0] 26 (0, 0)) := blk_sets [.slice none 0 0, .slice none 0 0] 0 [.slice none 0 0, .slice none 0 0] wr PB.out.res (Nat.le_of_ble_eq_true rfl)
                have hfz : Fr (fun _ => False) w ((wr.setCells R 0 [.slice none 0 0, .slice none 0 0]).drew) := (PB.out.fr.setCells (.inr PB.out.lo.1)).drew
                refine ret3_loc R [.slice none 0 0, .slice none 0 0] 26 _ (.int .i64 st.i) (.int .i64 st.e) hq rfl rfl (by rfl) Tryd.underlying26 rfl (by kernel_rfl) (by rfl) (by rfl) ?_
                rw [← HQ.out]
                exact ⟨none, 0, none, 0, rfl, empty_b _ _, hfz.below⟩
end Go.Proofs.YtnlmkdncifijlaaDoor.Ref
