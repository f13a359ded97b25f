/-
  The walk of FieldTold.
-/
import Derived.Test.YthenkpeibkpmkabU
namespace Go.Proofs.Ythenkpeibkpmkab
open Go.ChangeShapes Go.WideShapes Go.ChangeAt Go.RowKit Go.Maps
set_option linter.unusedVariables false
set_option linter.unusedSimpArgs false
theorem conv_nm (k : Nat) (hk : k < 26) (W : World) : (convert 38 9 (.slice (some ⟨W.heap.size, 0, none⟩) 1 1)).run Try.prog (W.alloc (.cells #[.int .u8 (97 + (k : Int))] 5)) = .ok (.string (nmB k)) (W.alloc (.cells #[.int .u8 (97 + (k : Int))] 5)) := by
  have hb : (((UInt8.ofNat (97 + k)).toNat : Nat) : Int) = 97 + (k : Int) := by
    have : (UInt8.ofNat (97 + k)).toNat = 97 + k := by rw [UInt8.toNat_ofNat']; omega
    omega
  have h := conv_one (UInt8.ofNat (97 + k)) W
  rw [hb] at h
  exact h
theorem heap_two (w : World) (o1 : Obj) (cs : Array Value) (t : TypeId) : ((w.alloc o1).alloc (.cells cs t)).heap[w.heap.size + 1]? = some (.cells cs t (0, 0)) := by
  have h : ((w.alloc o1).alloc (.cells cs t)).heap[(w.alloc o1).heap.size]? = some (.cells cs t (0, 0)) := by first | exact heap_alloc_new _ _ | exact _root_.Go.heap_alloc_new _ _
  simpa using h
def fT (i : Nat) : Int := 1 + ((i % 2 : Nat) : Int)
theorem fT_two (i : Nat) : fT i = 1 ∨ fT i = 2 := by unfold fT; omega
theorem fld_p (k p : Nat) (hk : k ≤ 4) (hp : p < k) : fld ⟨tN, fdsG fT k⟩ (nmB p) = ((p : Int), fT p, 0) := by
  have h1 := tchk_fds fT k hk (fun i _ => fT_two i)
  have h2 := fnd_fds fT p k 0 (by omega) hp (by omega)
  rw [List.drop_zero] at h2
  unfold fld
  rw [h1, if_neg (by simp)]
  simp only
  rw [h2, if_neg (by omega), Int.toNat_natCast]
  simp [fdsG, hp]
theorem fld_no (k : Nat) (hk : k ≤ 4) (s : ByteArray) (hs : s.data.size ≠ 1) : fld ⟨tN, fdsG fT k⟩ s = (0, 0, 6) := by
  have h1 := tchk_fds fT k hk (fun i _ => fT_two i)
  unfold fld
  rw [h1, if_neg (by simp)]
  simp only
  rw [if_pos (fnd_no fT k s hs)]
theorem fields_set {w5 : World} {B B' b : Nat} {v u : Value} {n : Nat} {xs : List Value} {l : List Fd} (h : w5.ownsRow B 46 2 v n xs ∨ w5.ownsRow B' 46 2 v n xs) (hb : b < B ∧ b < B') (hn : l.length = n) (hx : xs = l.flatMap encF) : FieldsAt (w5.setCell ⟨b, 1, none⟩ u) v l := by
  subst hn hx
  rcases h with h | h
  · exact fields_own (owns_block h (fun i hi => heap_other u (by have := (h.lt i hi).1; omega)))
  · exact fields_own (owns_block h (fun i hi => heap_other u (by have := (h.lt i hi).1; omega)))
set_option maxHeartbeats 8000000 in
theorem fieldTold_walk (n at_ : Int) (w : World) (hn : wfI n) (ha : wfI at_) :
    Calls Try.prog 7 #[.int .i64 n, .int .i64 at_] w fun e w' => e = .returned (.bool true) ∧ Below w.heap.size w w' := by
  obtain ⟨x, hx, hP⟩ := picked_const n 4 4 rfl hn (by omega) (by omega)
  have HP : Hid (∀ W, Calls Try.prog 13 #[.int .i64 n, .int .i64 4] W fun e w' => e = .returned (.int .i64 x) ∧ w' = W) := hP
  have HA : Hid (wfI at_) := ha
  obtain ⟨i0, a1, a2, a3, a4⟩ := info_parts infoF
  have HI : Hid (Try.prog.info? 46 = some i0 ∧ i0.zero = some (.agg #[.string ByteArray.empty, .int .i64 0]) ∧ i0.size = 2 ∧ i0.bytes = 24) := ⟨a1, a2, a3, a4⟩
  have hw : IntKind.i64.wrap (1 + (x : Int)) = 1 + x := by simp [IntKind.wrap, IntKind.bits, IntKind.signed]; omega
  clear hP a1 a2 a3 a4 hn ha
  go_enter Try.func7, Try.ntmps7
  go_wp2_with (go_at_call 13; refine (HP.out _).mono ?_; rintro e w ⟨rfl, rfl⟩)
  have HS : Hid (Tw w (w.alloc (.cells #[.string tN, .slice none 0 0] 44)) (.slice none 0 0) []) := Tw.start w
  go_loopw [7] (fun i wr => ∃ (k : Nat) (v : Value), k ≤ x + 1 ∧ i = .int .i64 (k : Nat) ∧ Tw w wr v (fdsG fT k)) (fun i _ => x + 2 - (intOf i).toNat)
  case atStart => exact ⟨0, _, by omega, rfl, HS.out⟩
  case round =>
    obtain ⟨k, v, hk, rfl, hT⟩ := hrel
    by_cases hlt : k < x + 1
    · obtain ⟨pu, cu, rfl⟩ := own_shape hT.row
      rw [fdsG_len] at hT
      have i1 : (k : Int) < 1 + (x : Int) := by omega
      have b1 := hT.box.c1
      have HT : Hid (Tw w wr (.slice pu k cu) (fdsG fT k)) := hT
      have HR : Hid (wr.ownsRow (w.heap.size + 1) 46 2 (.slice pu k cu) k ((fdsG fT k).flatMap encF)) := by have := hT.row; rw [fdsG_len] at this; exact this
      clear hT HS
      have hcv := conv_nm k (by omega) wr
      have hrm2 : (k : Int) % 2 = ((k % 2 : Nat) : Int) := by omega
      obtain ⟨q, hq⟩ : ∃ q : Nat, k % 2 = q := ⟨_, rfl⟩
      have hq2 : q < 2 := by omega
      rw [hq] at hrm2
      have HFT : Hid (fT k = 1 + (q : Int)) := by unfold fT; rw [hq]; exact rfl
      have HLN : Hid ((fdsG fT k).length = k) := fdsG_len _ _
      clear hq
      go_wp2_with (at_builtin; go_loud (refine wpList_append_own_at _ (by rfl) _ _ 42 (by rfl) (w.heap.size + 1) 46 i0 (.agg #[.string ByteArray.empty, .int .i64 0]) 2 24 Try.underlying42 HI.out.1 HI.out.2.1 HI.out.2.2.1 HI.out.2.2.2 rfl (by omega) (.slice pu k cu) k ((fdsG fT k).flatMap encF) (by rfl) ((HR.out.alloc _).alloc _) ⟨wr.heap.size + 1, 0, none⟩ 1 1 (encF ⟨nmB k, 1 + (q : Int)⟩) (by rfl) (by rfl) (World.news_of_block (heap_two _ _ _ _)) (by simp [encF, Value.oneCell']) (by unfold maxLen; omega) (by omega) (by simp; have := HT.out.below.size; have := HT.out.box.lt; omega) ?_); intro v' w3 hown hgrow hiff hat; go_loud (obtain ⟨hbx, htw⟩ := HT.out.append (below_two wr _ _) hgrow (by rw [HLN.out]; exact hown)); have HTW : Hid (Tw w (w3.setCell ⟨w.heap.size, 1, none⟩ v') v' (fdsG fT k ++ [⟨nmB k, 1 + (q : Int)⟩])) := htw; have e1 := hbx.c1; have e2 := hbx.fz 1; obtain ⟨pv, cv, hvv⟩ := own_shape hown; subst hvv; clear hown hgrow hat hiff hbx htw)
      go_roundw
      case rel => exact ⟨k + 1, _, by omega, by go_num, by rw [fdsG_succ, HFT.out]; exact HTW.out⟩
      case measure => simp [intOf]; omega
    · obtain rfl : k = x + 1 := by omega
      obtain ⟨p, hp, hPP⟩ := picked_const at_ (1 + (x : Int)) (x + 1) (by omega) HA.out (by omega) (by omega)
      have HPP : Hid (∀ W, Calls Try.prog 13 #[.int .i64 at_, .int .i64 (1 + (x : Int))] W fun e w' => e = .returned (.int .i64 p) ∧ w' = W) := hPP
      have HT : Hid (Tw w wr v (fdsG fT (x + 1))) := hT
      have hrow := hT.row
      rw [fdsG_len] at hrow
      have hF := fields_own hT.row
      obtain ⟨pu, cu, hsh, hcu, _, hcl⟩ := hF
      rw [fdsG_len] at hsh hcu
      obtain ⟨g, off, hg, hcl⟩ := hcl (by rw [fdsG_len]; omega)
      obtain ⟨hgs, y0, y1⟩ := hcl p (by rw [fdsG_len]; exact hp)
      have e1 : (fdsG fT (x + 1))[p]'(by rw [fdsG_len]; exact hp) = ⟨nmB p, fT p⟩ := by simp [fdsG]
      rw [e1] at y0 y1
      simp only at y0 y1
      subst hg
      subst hsh
      have HOFF : Hid (off = 0 ∧ g < wr.heap.size) := ⟨by
        rcases hrow.2 with ⟨h, _⟩ | ⟨g', c', cur, h, _⟩
        · cases h
        · simp at h; exact h.1.2, hgs⟩
      obtain ⟨rfl, _⟩ := HOFF.out
      have b0 := hT.box.c0
      have b1 := hT.box.c1
      have i1 : (0 : Int) ≤ (p : Int) := by omega
      have i2 : (p : Int) < ((x + 1 : Nat) : Int) := by omega
      have hE : ¬ (((x + 1 : Nat) : Int) < 1 + (x : Int)) := by omega
      have HROW : Hid (wr.ownsRow (w.heap.size + 1) 46 2 (.slice (some ⟨g, 0, none⟩) (x + 1) cu) (x + 1) ((fdsG fT (x + 1)).flatMap encF)) := hrow
      have HFA : Hid (FieldsAt wr (.slice (some ⟨g, 0, none⟩) (x + 1) cu) (fdsG fT (x + 1))) := fields_own hT.row
      clear hT hrow hcl hgs hPP HS HP
      go_wp2_with (go_at_call 13; refine (HPP.out _).mono ?_; rintro e wr ⟨rfl, rfl⟩)
      have i3 : (p : Int) < (x : Int) + 1 := by omega
      have HF1 : Hid (∀ W, Below wr.heap.size wr W → Calls Try.prog 17 #[.agg #[.string tN, .slice (some ⟨g, 0, none⟩) (x + 1) cu], .string (nmB p)] W fun e w' => e = .returned (.tuple #[.int .i64 (p : Int), .int .i64 (fT p), .int .i64 0]) ∧ Below W.heap.size W w') := fun W hb => by
        have h := field_any ⟨tN, fdsG fT (x + 1)⟩ _ (nmB p) W (HFA.out.below hb)
        rw [fld_p (x + 1) p (by omega) hp] at h
        exact h
      have HF2 : Hid (∀ W, Below wr.heap.size wr W → Calls Try.prog 17 #[.agg #[.string tN, .slice (some ⟨g, 0, none⟩) (x + 1) cu], .string ⟨#[110, 111, 116, 104, 101, 114, 101]⟩] W fun e w' => e = .returned (.tuple #[.int .i64 0, .int .i64 0, .int .i64 6]) ∧ Below W.heap.size W w') := fun W hb => by
        have h := field_any ⟨tN, fdsG fT (x + 1)⟩ _ ⟨#[110, 111, 116, 104, 101, 114, 101]⟩ W (HFA.out.below hb)
        rw [fld_no (x + 1) (by omega) _ (by simp)] at h
        exact h
      have HLT : Hid (w.heap.size < wr.heap.size ∧ g < wr.heap.size) := ⟨HT.out.box.lt, HOFF.out.2⟩
      rw [Nat.zero_add] at y0 y1
      go_region_held3 (fun w' => w'.cell? ⟨w.heap.size, 0, none⟩ = some (.string tN) ∧ w'.cell? ⟨w.heap.size, 1, none⟩ = some (.slice (some ⟨g, 0, none⟩) (x + 1) cu) ∧ w'.cell? ⟨g, p * 2, none⟩ = some (.string (nmB p)))
        (first | exact ⟨z0, z1, z2⟩ | (go_keep; done))
        ((go_at_call 17; refine (HF1.out _ ((Below.refl _ wr).drew)).mono ?_; rintro e w2 ⟨rfl, hb2⟩; have HB2 : Hid (Below wr.heap.size wr w2) := below_trans ((Below.refl _ wr).drew) hb2 (Nat.le_refl _); have z0 : w2.cell? ⟨w.heap.size, 0, none⟩ = some (.string tN) := (HB2.out.cell (p := ⟨w.heap.size, 0, none⟩) HLT.out.1).trans b0; have z1 : w2.cell? ⟨w.heap.size, 1, none⟩ = some (.slice (some ⟨g, 0, none⟩) (x + 1) cu) := (HB2.out.cell (p := ⟨w.heap.size, 1, none⟩) HLT.out.1).trans b1; have z2 : w2.cell? ⟨g, p * 2, none⟩ = some (.string (nmB p)) := (HB2.out.cell (p := ⟨g, p * 2, none⟩) HLT.out.2).trans y0; clear hb2))
      clear b0 b1
      go_wp2_with fail
      refine (HF2.out _ HB2.out).mono ?_
      rintro e w3 ⟨rfl, hb3⟩
      have HB3 : Hid (Below wr.heap.size wr w3) := below_trans HB2.out hb3 HB2.out.size
      have HT3 : Hid (Tw w w3 (.slice (some ⟨g, 0, none⟩) (x + 1) cu) (fdsG fT (x + 1))) := HT.out.less HB3.out
      clear hb3 z0 z1 z2
      have b1 := HT3.out.box.c1
      have bz := HT3.out.box.fz 1
      have x0 : w3.cell? ⟨g, p * 2, none⟩ = some (.string (nmB p)) := (HB3.out.cell (p := ⟨g, p * 2, none⟩) HLT.out.2).trans y0
      have x1 : w3.cell? ⟨g, p * 2 + 1, none⟩ = some (.int .i64 (fT p)) := (HB3.out.cell (p := ⟨g, p * 2 + 1, none⟩) HLT.out.2).trans y1
      have HR3 : Hid (w3.ownsRow (w.heap.size + 1) 46 2 (.slice (some ⟨g, 0, none⟩) (x + 1) cu) (x + 1) ((fdsG fT (x + 1)).flatMap encF)) := by have := HT3.out.row; rw [fdsG_len] at this; exact this
      have j1 : (0 : Int) ≤ 1 + (x : Int) := by omega
      have j2 : 1 + (x : Int) ≤ (cu : Int) := by omega
      clear y0 y1 HF1 HF2 HPP
      go_wp2_with fail
      have hto : (1 + (x : Int)).toNat = x + 1 := by omega
      have b1a : (w3.alloc (.cells #[.string (nmB p), .int .i64 (fT p)] 46)).cell? ⟨w.heap.size, 1, none⟩ = some (.slice (some ⟨g, 0, none⟩) (x + 1) cu) := (((Below.refl _ w3).alloc (Nat.le_refl _) _).cell (p := ⟨w.heap.size, 1, none⟩) HT3.out.box.lt).trans b1
      have b1b : (w3.drew.alloc (.cells #[.string (nmB p), .int .i64 (fT p)] 46)).cell? ⟨w.heap.size, 1, none⟩ = some (.slice (some ⟨g, 0, none⟩) (x + 1) cu) := (((Below.refl _ w3).drew.alloc (by simp) _).cell (p := ⟨w.heap.size, 1, none⟩) HT3.out.box.lt).trans b1
      have j3 : 1 + (x : Int) ≤ (x : Int) + 1 := by omega
      have j4 : (0 : Int) ≤ 1 + (x : Int) := by omega
      go_region_law (refine step_append_grows (by rfl) _ _ 42 (by rfl) 46 i0 (.agg #[.string ByteArray.empty, .int .i64 0]) 2 24 Try.underlying42 HI.out.1 HI.out.2.1 HI.out.2.2.1 HI.out.2.2.2 rfl (by omega) (some ⟨g, 0, none⟩) (x + 1) (x + 1) ((fdsG fT (x + 1)).flatMap encF) (by rfl) (fun h => by cases h) (by rw [length_flatF, fdsG_len]) (fun b hb j u hu => by cases hb; rw [Addr.add_mid, Nat.zero_add]; exact ((HR3.out.alloc _).cellAt j (by have := (List.getElem?_eq_some_iff.1 hu).1; rw [length_flatF, fdsG_len] at this; exact this)).trans hu) ⟨w3.heap.size, 0, none⟩ 1 1 (encF ⟨nmB p, fT p⟩) (by rfl) (by rfl) (World.news_of_block (heap_alloc_new _ _)) (by simp [encF, Value.oneCell']) (by omega) (by unfold maxLen; omega) (by omega) ?_; intro v' w5 hown hgrow; obtain ⟨pv, cv, hvv⟩ := own_shape hown; subst hvv; have HW : Hid (Tw w (w3.drew.alloc (.cells #[.string (nmB p), .int .i64 (fT p)] 46)) (.slice (some ⟨g, 0, none⟩) (x + 1) cu) (fdsG fT (x + 1))) := HT3.out.less ((Below.refl _ w3).drew.alloc (by simp) _); have hbx : TB w5 w.heap.size (.slice (some ⟨g, 0, none⟩) (x + 1) cu) := HW.out.box.block (hgrow.block _ HW.out.box.lt (by simp)); have HBX : Hid (TB w5 w.heap.size (.slice (some ⟨g, 0, none⟩) (x + 1) cu)) := hbx; have e1 := hbx.c1; have e2 := hbx.fz 1; have HO : Hid (w5.ownsRow w3.heap.size 46 2 (.slice pv (x + 1 + 1) cv) (x + 1 + 1) ((fdsG fT (x + 1)).flatMap encF ++ encF ⟨nmB p, fT p⟩) ∨ w5.ownsRow (w3.heap.size + 1) 46 2 (.slice pv (x + 1 + 1) cv) (x + 1 + 1) ((fdsG fT (x + 1)).flatMap encF ++ encF ⟨nmB p, fT p⟩)) := (by first | exact Or.inl hown | exact Or.inr (by simpa using hown)); have HB5 : Hid (Below w.heap.size w w5) := HW.out.below.grown hgrow HW.out.below.size (fun k hk => by cases hk); clear hown hgrow hbx)
      all_goals
        have HN : Hid (TB (w5.setCell ⟨w.heap.size, 1, none⟩ (.slice pv (x + 1 + 1) cv)) w.heap.size (.slice pv (x + 1 + 1) cv)) := HBX.out.set _
        have HFN : Hid (FieldsAt (w5.setCell ⟨w.heap.size, 1, none⟩ (.slice pv (x + 1 + 1) cv)) (.slice pv (x + 1 + 1) cv) (fdsG fT (x + 1) ++ [⟨nmB p, fT p⟩])) := by
          refine fields_set HO.out ⟨HT3.out.box.lt, Nat.lt_succ_of_lt HT3.out.box.lt⟩ ?_ ?_
          · simp [fdsG_len]
          · simp
        have HB6 : Hid (Below w.heap.size w (w5.setCell ⟨w.heap.size, 1, none⟩ (.slice pv (x + 1 + 1) cv))) := HB5.out.setCell (p := ⟨w.heap.size, 1, none⟩) (Nat.le_refl _) _
        have f0 := HN.out.c0
        have f1 := HN.out.c1
        clear e1 e2 b1 bz b1a b1b x0 x1
        go_wp2_with fail
        generalize w5.setCell ⟨w.heap.size, 1, none⟩ (.slice pv (x + 1 + 1) cv) = W6 at HN HFN HB6 f0 f1 ⊢
        refine (checkType_any ⟨tN, fdsG fT (x + 1) ++ [⟨nmB p, fT p⟩]⟩ _ _ HFN.out).mono ?_
        rintro e w7 ⟨he7, hb7⟩
        have HB7 : Hid (Below w.heap.size w w7) := below_trans HB6.out hb7 HB6.out.size
        clear hb7 f0 f1
        have hfp : 1 + (p : Int) % 2 = fT p := by unfold fT; omega
        have hpp : IntKind.i64.wrap (1 + (p : Int) % 2) = fT p := by rw [hfp]; have := fT_two p; simp [IntKind.wrap, IntKind.bits, IntKind.signed]; omega
        rcases (by omega : x = 3 ∨ x < 3) with hx3 | hx3
        · subst hx3
          rw [tchk_full _ (by simp [fdsG_len])] at he7
          subst he7
          go_wp2
          all_goals
            go_ret
            exact ⟨ret_bool (by simp), HB7.out⟩
        · rw [tchk_twice fT (x + 1) p (by omega) hp (fun i _ => fT_two i)] at he7
          subst he7
          go_wp2
          all_goals
            go_ret
            exact ⟨ret_bool (by simp), HB7.out⟩
end Go.Proofs.Ythenkpeibkpmkab
