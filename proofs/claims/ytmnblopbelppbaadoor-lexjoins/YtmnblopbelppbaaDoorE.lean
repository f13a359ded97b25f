/-
  What the document makes of tokens that are joined; two lists of the same tokens.
-/
import Derived.Test.YtmnblopbelppbaaDoorD
namespace Go.Proofs.YtmnblopbelppbaaDoor
open Go.ChangeShapes Go.WideShapes Go.ChangeAt Go.RowKit Go.Maps Go.Deep
set_option linter.unusedVariables false
set_option linter.unusedSimpArgs false
set_option maxHeartbeats 8000000 in
theorem joinOf_any (v : Value) (l : List Tk) (w : World) (hv : TokensAt w v l) (hw : ∀ t ∈ l, wfT t) :
    Calls Tryd.prog 15 #[v] w fun e w' => e = .returned (.tuple #[.string (txt (jn l).1), .int .i64 (jn l).2]) ∧ Below w.heap.size w w' := by
  obtain ⟨p, cap, rfl, hcap, hmax, hp⟩ := hv
  obtain ⟨x, hx⟩ : ∃ x, (jn l).1 = x := ⟨_, rfl⟩
  obtain ⟨r, hr⟩ : ∃ r, (jn l).2 = r := ⟨_, rfl⟩
  have hj : jn l = (x, r) := by rw [← hx, ← hr]
  have HJ : Hid (jn l = (x, r)) := hj
  have HW : Hid (∀ t ∈ l, wfT t) := hw
  rw [hx, hr]
  clear hx hr hj hw
  obtain ⟨n, hnl⟩ : ∃ n, l.length = n := ⟨_, rfl⟩
  have HP0 : Hid (0 < l.length → ∃ g off, p = some ⟨g, off, none⟩ ∧ ∀ j (hj : j < l.length), g < w.heap.size ∧ w.cell? ⟨g, off + j * 3, none⟩ = some (.int .i64 l[j].k) ∧ w.cell? ⟨g, off + j * 3 + 1, none⟩ = some (.string l[j].s) ∧ w.cell? ⟨g, off + j * 3 + 2, none⟩ = some (.int .i64 l[j].n)) := hp
  have HNL : Hid (l.length = n) := hnl
  have hmx : (n : Int) ≤ 9223372036854775807 := by unfold maxLen at hmax; omega
  rw [hnl]
  clear hp hnl hcap hmax
  by_cases h7 : 700 < n
  · have HQ : Hid ([] = x ∧ (8 : Int) = r) := by
      have := HJ.out
      unfold jn at this
      rw [HNL.out, if_pos h7] at this
      exact ⟨congrArg Prod.fst this, congrArg Prod.snd this⟩
    have h7d : decide ((700 : Int) < (n : Int)) = true := by simp; omega
    clear HJ
    go_enter Tryd.func15, Tryd.ntmps15
    go_wp2
    go_ret2
    exact ⟨by rw [← HQ.out.1, ← HQ.out.2]; rfl, Below.refl _ _⟩
  · have h7d : decide ((700 : Int) < (n : Int)) = false := by simp; omega
    have HJ2 : Hid ((if fst (tat l) n ≠ 0 then ([], fst (tat l) n) else if 3000 < (cat l).length then ([], 1) else (cat l, 0)) = (x, r)) := by
      have := HJ.out
      unfold jn at this
      rw [HNL.out, if_neg h7] at this
      exact this
    clear HJ
    go_enter Tryd.func15, Tryd.ntmps15
    go_wp2
    go_loopw [4, 5] (fun u i wr => ∃ (k : Nat) (S : ByteArray), k ≤ n ∧ i = .int .i64 (k : Nat) ∧ u = .string S ∧ S.data.toList = cat (l.take k) ∧ fst (tat l) k = 0 ∧ Below w.heap.size w wr) (fun _ i _ => n + 1 - (intOf i).toNat)
    case atStart => exact ⟨0, ⟨#[]⟩, by omega, rfl, rfl, rfl, rfl, Below.refl _ _⟩
    case round =>
      obtain ⟨k, S, hk, rfl, rfl, hS, hf, hB⟩ := hrel
      have HF : Hid (fst (tat l) k = 0) := hf
      have HS : Hid (S.data.toList = cat (l.take k)) := hS
      have HB : Hid (Below w.heap.size w wr) := hB
      by_cases hlt : k < n
      · have hkd : k < l.length := by have := HNL.out; omega
        obtain ⟨g, off, hg, hc⟩ := HP0.out (by omega)
        obtain ⟨hgs, c0, c1, c2⟩ := hc k hkd
        subst hg
        have HTA : Hid (tat l k = tchk l[k]) := tat_at hkd
        have hct := cat_take l k hkd
        have hwk := HW.out _ (List.getElem_mem hkd)
        have hz1 : S.size ≤ 16100 := by
          have h1 : ∀ t ∈ l.take k, tchk t = 0 := fun t ht => by
            obtain ⟨j, hj, rfl⟩ := List.getElem_of_mem ht
            have hj2 : j < k := by rw [List.length_take] at hj; omega
            have := fst_zero HF.out j hj2
            rw [tat_at (by omega)] at this
            simpa using this
          have h2 := cat_len _ h1
          have h3 : (l.take k).length ≤ k := List.length_take_le _ _
          have h4 : S.size = (cat (l.take k)).length := by rw [← hS]; simp
          omega
        obtain ⟨d, hdk⟩ : ∃ d, l[k] = d := ⟨_, rfl⟩
        rw [hdk] at c0 c1 c2 HTA hct hwk
        have b0 : wr.cell? ⟨g, off + k * 3, none⟩ = some (.int .i64 d.k) := (hB.cell (p := ⟨g, off + k * 3, none⟩) hgs).trans c0
        have b1 : wr.cell? ⟨g, off + k * 3 + 1, none⟩ = some (.string d.s) := (hB.cell (p := ⟨g, off + k * 3 + 1, none⟩) hgs).trans c1
        have b2 : wr.cell? ⟨g, off + k * 3 + 2, none⟩ = some (.int .i64 d.n) := (hB.cell (p := ⟨g, off + k * 3 + 2, none⟩) hgs).trans c2
        have i1 : (0 : Int) ≤ (k : Int) := by omega
        have i2 : (k : Int) < (n : Int) := by omega
        have HGS : Hid (g < w.heap.size) := hgs
        have HCT : Hid (cat (l.take (k + 1)) = (cat (l.take k) ++ shw d) ++ [32]) := hct
        obtain ⟨e0, he0⟩ : ∃ e0, tchk d = e0 := ⟨_, rfl⟩
        have HE : Hid (tchk d = e0) := he0
        have HCK : Hid (∀ W, Calls Tryd.prog 13 #[.agg #[.int .i64 d.k, .string d.s, .int .i64 d.n]] W fun e w' => e = .returned (.int .i64 e0) ∧ Below W.heap.size W w') := fun W => by rw [← he0]; exact tfault_any d W (by have := hwk.2.1; unfold maxLen at this; omega)
        clear hc hdk c0 c1 c2 hgs hf hB hkd hct hS hwk
        by_cases hr0 : e0 = 0
        · subst hr0
          go_wp2_with fail
          refine (HCK.out _).mono ?_
          rintro e w2 ⟨rfl, hb2⟩
          have HB2 : Hid (Below w.heap.size w w2) := below_trans HB.out hb2 HB.out.size
          have q0 : w2.cell? ⟨g, off + k * 3, none⟩ = some (.int .i64 d.k) := (hb2.cell (p := ⟨g, off + k * 3, none⟩) (Nat.lt_of_lt_of_le HGS.out HB.out.size)).trans b0
          have q1 : w2.cell? ⟨g, off + k * 3 + 1, none⟩ = some (.string d.s) := (hb2.cell (p := ⟨g, off + k * 3 + 1, none⟩) (Nat.lt_of_lt_of_le HGS.out HB.out.size)).trans b1
          have q2 : w2.cell? ⟨g, off + k * 3 + 2, none⟩ = some (.int .i64 d.n) := (hb2.cell (p := ⟨g, off + k * 3 + 2, none⟩) (Nat.lt_of_lt_of_le HGS.out HB.out.size)).trans b2
          have hsl := shw_len he0
          clear hb2 b0 b1 b2
          rcases fine he0 with ⟨h1, h2, h3⟩ | ⟨h1, h2, h3, h4⟩ | ⟨h1, h2, h3, h4⟩ | ⟨h1, h2, h3⟩
          · have hsh : shw d = d.s.data.toList := by unfold shw; rw [if_neg (by omega), if_neg (by omega)]
            have hz2 : d.s.size ≤ 22 := by rw [hsh] at hsl; simpa using hsl
            rw [h1] at q0
            have HSH : Hid (shw d = d.s.data.toList) := hsh
            clear h1 h2 h3 hsh hsl he0
            go_wp2
            go_roundw
            case rel => exact ⟨k + 1, _, by omega, by go_num, rfl, by rw [cat_list, cat_list, HS.out, HCT.out, HSH.out], fst_step HF.out (HTA.out.trans HE.out), HB2.out⟩
            case measure => simp [intOf]; omega
          · have hsh : shw d = Lib.itoa d.n := by unfold shw; rw [if_pos h1]
            obtain ⟨u, hu⟩ := Int.eq_ofNat_of_zero_le h3
            rw [hu] at q2 hsh h4
            have hit : Lib.itoa (u : Int) = Lib.decDigits u := by unfold Lib.itoa; rw [if_neg (by omega)]; simp
            rw [hit] at hsh
            obtain ⟨X, hX⟩ : ∃ X, txt (Lib.decDigits u) = X := ⟨_, rfl⟩
            have hz2 : X.size ≤ 22 := by rw [← hX, txt_size, ← hsh]; exact hsl
            have HDEC : Hid (∀ W, Calls Tryd.prog 36 #[.int .i64 (u : Int)] W fun e w' => e = .returned (.string X) ∧ Below W.heap.size W w') := fun W => by rw [← hX]; exact dec_any u (by omega) W
            rw [h1] at q0
            have hsx : shw d = X.data.toList := by rw [hsh, ← hX, txt_list]
            have HSH : Hid (shw d = X.data.toList) := hsx
            clear h1 h2 h3 h4 hsh hsl he0 hu hit hX hsx
            go_wp2_with (go_at_call 36; refine (HDEC.out _).mono ?_; rintro e w3 ⟨rfl, hb3⟩; have HB3 : Hid (Below w.heap.size w w3) := below_trans HB2.out hb3 HB2.out.size; clear hb3)
            go_roundw
            case rel => exact ⟨k + 1, _, by omega, by go_num, rfl, by rw [cat_list, cat_list, HS.out, HCT.out, HSH.out], fst_step HF.out (HTA.out.trans HE.out), HB3.out⟩
            case measure => simp [intOf]; omega
          · have hsh : shw d = 34 :: (d.s.data.toList ++ [34]) := by unfold shw; rw [if_neg (by omega), if_pos h1]
            have hz2 : d.s.size ≤ 20 := h4
            rw [h1] at q0
            have HSH : Hid (shw d = 34 :: (d.s.data.toList ++ [34])) := hsh
            clear h1 h2 h3 h4 hsh hsl he0
            go_wp2
            go_roundw
            case rel => exact ⟨k + 1, _, by omega, by go_num, rfl, by rw [cat_list, cat_list, cat_list, HS.out, HCT.out, HSH.out]; simp, fst_step HF.out (HTA.out.trans HE.out), HB2.out⟩
            case measure => simp [intOf]; omega
          · have hsh : shw d = d.s.data.toList := by unfold shw; rw [if_neg (by omega), if_neg (by omega)]
            have hz2 : d.s.size ≤ 22 := by rw [hsh] at hsl; simpa using hsl
            rw [h1] at q0
            have HSH : Hid (shw d = d.s.data.toList) := hsh
            clear h1 h2 h3 hsh hsl he0
            go_wp2
            go_roundw
            case rel => exact ⟨k + 1, _, by omega, by go_num, rfl, by rw [cat_list, cat_list, HS.out, HCT.out, HSH.out], fst_step HF.out (HTA.out.trans HE.out), HB2.out⟩
            case measure => simp [intOf]; omega
        · have hrb : (e0 == 0) = false := by simpa using hr0
          have hrd : (e0 != 0) = true := by simpa using hr0
          have hq : fst (tat l) n = e0 := by
            rw [fst_hit HF.out (by rw [HTA.out, HE.out]; exact hr0) hlt, HTA.out, HE.out]
          have HQ : Hid ([] = x ∧ e0 = r) := by
            have := HJ2.out
            rw [hq, if_pos hr0] at this
            exact ⟨congrArg Prod.fst this, congrArg Prod.snd this⟩
          clear hq he0
          go_wp2_with (go_at_call 13; refine (HCK.out _).mono ?_; rintro e w2 ⟨rfl, hb2⟩; have HB2 : Hid (Below w.heap.size w w2) := below_trans HB.out hb2 HB.out.size; clear hb2)
          go_ret2
          exact ⟨by rw [← HQ.out.1, ← HQ.out.2]; rfl, HB2.out⟩
      · obtain rfl : k = n := by omega
        have htk : l.take k = l := List.take_of_length_le (by rw [HNL.out]; exact Nat.le_refl _)
        rw [htk] at HS
        obtain ⟨m, hm⟩ : ∃ m, S.size = m := ⟨_, rfl⟩
        have hml : (cat l).length = m := by rw [← HS.out, ← hm]; simp
        have HJ3 : Hid ((if 3000 < m then ([], 1) else (cat l, 0)) = (x, r)) := by
          have := HJ2.out
          rw [HF.out, if_neg (by simp), hml] at this
          exact this
        clear hf hB hS htk hml
        by_cases h3 : 3000 < m
        · have h3d : decide ((3000 : Int) < (m : Int)) = true := by simp; omega
          have HQ : Hid ([] = x ∧ (1 : Int) = r) := by
            have := HJ3.out
            rw [if_pos h3] at this
            exact ⟨congrArg Prod.fst this, congrArg Prod.snd this⟩
          go_wp2
          go_ret2
          exact ⟨by rw [← HQ.out.1, ← HQ.out.2]; rfl, HB.out⟩
        · have h3d : decide ((3000 : Int) < (m : Int)) = false := by simp; omega
          have HQ : Hid (cat l = x ∧ (0 : Int) = r) := by
            have := HJ3.out
            rw [if_neg h3] at this
            exact ⟨congrArg Prod.fst this, congrArg Prod.snd this⟩
          have HSX : Hid (S = txt (cat l)) := (txt_eq S (cat l)).2 HS.out
          go_wp2
          go_ret2
          exact ⟨by rw [← HQ.out.1, ← HQ.out.2, ← HSX.out]; rfl, HB.out⟩
end Go.Proofs.YtmnblopbelppbaaDoor
