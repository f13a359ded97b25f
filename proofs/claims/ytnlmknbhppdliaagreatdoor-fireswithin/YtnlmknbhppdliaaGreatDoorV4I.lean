/-
  CheckType. What the document says of a type. The walk of ValueTypes. Field, and what the document says of it. Types and fields: the program's answers in the words of the reference's. Maps by names: patterns that are known, names that are taken. Types are found by a closure.
-/
import Derived.Lib.SmallJoins
import Derived.Maps.OwnSet
import Derived.StringKeys
import Derived.Test.YtnlmknbhppdliaaGreatDoorCe
set_option maxHeartbeats 64000000
namespace Go.Proofs.YtnlmknbhppdliaaGreatDoor.V4
open Go.ChangeShapes Go.WideShapes Go.ChangeAt Go.RowKit
set_option linter.unusedVariables false
set_option linter.unusedSimpArgs false
set_option maxRecDepth 20000
theorem FieldsAt.take {w : World} {p : Option Addr} {n cap k : Nat} {l : List Fd} (h : FieldsAt w (.slice p n cap) l) (hk : k ≤ n) : FieldsAt w (.slice p k cap) (l.take k) := by
  obtain ⟨p', cap', h1, hc, hm, h2⟩ := h
  simp at h1
  obtain ⟨rfl, rfl, rfl⟩ := h1
  have hl : (l.take k).length = k := by rw [List.length_take]; omega
  refine ⟨p, cap, by rw [hl], by rw [hl]; omega, hm, fun h0 => ?_⟩
  obtain ⟨g, off, h3, h4⟩ := h2 (by omega)
  refine ⟨g, off, h3, fun j hj => ?_⟩
  obtain ⟨a, b0, b1⟩ := h4 j (by omega)
  rw [List.getElem_take]
  exact ⟨a, b0, b1⟩
theorem tchk_mid {t : Ty} (h1 : nchk t.s = 0) (h2 : ¬ 4 < t.fs.length) : tchk t = fst (fchk t.fs) t.fs.length := by
  unfold tchk
  rw [if_neg (by simp [h1]), if_neg h2]
theorem checkType_any (t : Ty) (v : Value) (w : World) (hv : FieldsAt w v t.fs) :
   Calls Tryz.prog 53 #[.agg #[.string t.s, v]] w fun e w' => e = .returned (.int .i64 (tchk t)) ∧ Below w.heap.size w w' := by
 obtain ⟨s, l⟩ := t
 obtain ⟨T, hT⟩ : ∃ T, tchk ⟨s, l⟩ = T := ⟨_, rfl⟩
 have HT : Hid (tchk ⟨s, l⟩ = T) := hT
 rw [hT]
 clear hT
 simp only at hv
 have HV : Hid (FieldsAt w v l) := hv
 obtain ⟨p, cap, rfl, hcap, hmax, hp⟩ := hv
 obtain ⟨n, hnl⟩ : ∃ n, l.length = n := ⟨_, rfl⟩
 have HNL : Hid (l.length = n) := hnl
 have HP : Hid (0 < l.length → ∃ g off, p = some ⟨g, off, none⟩ ∧ ∀ j (hj : j < l.length), g < w.heap.size ∧ w.cell? ⟨g, off + j * 2, none⟩ = some (.string l[j].s) ∧ w.cell? ⟨g, off + j * 2 + 1, none⟩ = some (.int .i64 l[j].k)) := hp
 obtain ⟨c, hc⟩ : ∃ c, nchk s = c := ⟨_, rfl⟩
 have HC : Hid (nchk s = c) := hc
 have H1 : Hid (∀ W, Calls Tryz.prog 81 #[.string s] W fun e w' => e = .returned (.int .i64 c) ∧ w' = W) := fun W => by rw [← hc]; exact zB6 _ _
 rw [hnl] at hcap HV ⊢
 clear hp hnl hc hmax
 by_cases hc0 : c = 0
 . subst hc0
   by_cases h4 : 4 < n
   . have HX : Hid (T = 1) := by rw [← HT.out]; unfold tchk; simp only; rw [if_neg (by simp [HC.out]), if_pos (by rw [HNL.out]; exact h4)]; exact rfl
     have h4' : decide ((4 : Int) < (n : Int)) = true := by simp; omega
     go_enter Tryz.func53, Tryz.ntmps53
     go_wp2_with (go_at_call 81; refine (H1.out _).mono ?_; rintro e w2 ⟨rfl, rfl⟩)
     go_ret
     exact ⟨zAD HX.out.symm, (Below.refl _ w).alloc (Nat.le_refl _) _⟩
   . have h4' : decide ((4 : Int) < (n : Int)) = false := by simp; omega
     have HX : Hid (T = fst (fchk l) n) := by rw [← HT.out, tchk_mid (by exact HC.out) (by simp only; rw [HNL.out]; exact h4)]; simp only; rw [HNL.out]; exact rfl
     go_enter Tryz.func53, Tryz.ntmps53
     go_wp2_with (go_at_call 81; refine (H1.out _).mono ?_; rintro e w2 ⟨rfl, rfl⟩)
     have HB0 : Hid (Below w.heap.size w (w.alloc (.cells #[.string s, .slice p n cap] 59))) := (Below.refl _ w).alloc (Nat.le_refl _) _
     go_loopw [20] (fun i wr => ∃ k : Nat, k ≤ n ∧ i = .int .i64 (k : Nat) ∧ fst (fchk l) k = 0 ∧ Below w.heap.size w wr ∧ wr.cell? ⟨w.heap.size, 1, none⟩ = some (.slice p n cap)) (fun i _ => n + 1 - (intOf i).toNat)
     case atStart => exact ⟨0, by omega, rfl, rfl, HB0.out, by simp⟩
     case round =>
      obtain ⟨k, hk, rfl, hf, hB, bt⟩ := hrel
      have HF : Hid (fst (fchk l) k = 0) := hf
      have HB : Hid (Below w.heap.size w wr) := hB
      by_cases hlt : k < n
      . have hkd : k < l.length := by have := HNL.out; omega
        obtain ⟨g, off, hg, hcl⟩ := HP.out (by omega)
        obtain ⟨hgs, c0, c1⟩ := hcl k hkd
        subst hg
        have HKF : Hid (fchk l k = fck l[k] (l.take k)) := fchk_at hkd
        obtain ⟨d, hdk⟩ : ∃ d, l[k] = d := ⟨_, rfl⟩
        rw [hdk] at c0 c1 HKF
        have b0 : wr.cell? ⟨g, off + k * 2, none⟩ = some (.string d.s) := (hB.cell (p := ⟨g, off + k * 2, none⟩) hgs).trans c0
        have b1 : wr.cell? ⟨g, off + k * 2 + 1, none⟩ = some (.int .i64 d.k) := (hB.cell (p := ⟨g, off + k * 2 + 1, none⟩) hgs).trans c1
        have i1 : (0 : Int) ≤ (k : Int) := by omega
        have i2 : (k : Int) < (n : Int) := by omega
        have i3 : (k : Int) ≤ (cap : Int) := by omega
        have i4 : k ≤ cap := by omega
        have hwr : w.heap.size < wr.heap.size := World.block_lt_of_cell? wr ⟨w.heap.size, 1, none⟩ bt
        obtain ⟨r, hr⟩ : ∃ r, fck d (l.take k) = r := ⟨_, rfl⟩
        rw [hr] at HKF
        have H2 : Hid (∀ W, Below w.heap.size w W → Calls Tryz.prog 82 #[.agg #[.string d.s, .int .i64 d.k], .slice (some ⟨g, off, none⟩) k cap] W fun e w' => e = .returned (.int .i64 r) ∧ Below W.heap.size W w') := fun W hb => by rw [← hr]; exact zCU d _ _ _ ((HV.out.below hb).take (by omega))
        have HWR : Hid (w.heap.size < wr.heap.size) := hwr
        have hne : wr.heap.size ≠ w.heap.size := by omega
        have hne2 : w.heap.size ≠ wr.heap.size := by omega
        clear hcl hdk c0 c1 hgs hf hB hkd hr hwr
        go_wp2_with fail
        have d0 : (wr.alloc (.cells #[.string d.s, .int .i64 d.k] 103)).cell? ⟨wr.heap.size, 0, none⟩ = some (.string d.s) := zAN rfl rfl
        have d1 : (wr.alloc (.cells #[.string d.s, .int .i64 d.k] 103)).cell? ⟨wr.heap.size, 1, none⟩ = some (.int .i64 d.k) := zAN rfl rfl
        have dt : (wr.alloc (.cells #[.string d.s, .int .i64 d.k] 103)).cell? ⟨w.heap.size, 1, none⟩ = some (.slice (some ⟨g, off, none⟩) n cap) := (((Below.refl _ wr).alloc (Nat.le_refl _) _).cell (p := ⟨w.heap.size, 1, none⟩) HWR.out).trans bt
        have HW1 : Hid (Below w.heap.size w (wr.alloc (.cells #[.string d.s, .int .i64 d.k] 103)) ∧ w.heap.size < (wr.alloc (.cells #[.string d.s, .int .i64 d.k] 103)).heap.size ∧ wr.heap.size < (wr.alloc (.cells #[.string d.s, .int .i64 d.k] 103)).heap.size) := ⟨HB.out.alloc HB.out.size _, by have := HWR.out; simp; omega, by simp⟩
        generalize wr.alloc (.cells #[.string d.s, .int .i64 d.k] 103) = W1 at d0 d1 dt HW1 ⊢
        clear b0 b1 bt
        go_region_held3 (fun w' => w'.cell? ⟨wr.heap.size, 0, none⟩ = some (.string d.s) ∧ w'.cell? ⟨wr.heap.size, 1, none⟩ = some (.int .i64 d.k) ∧ w'.cell? ⟨w.heap.size, 1, none⟩ = some (.slice (some ⟨g, off, none⟩) n cap))
          (first | exact ⟨q0, q1, q2⟩ | (go_keep; done))
          ((go_at_call 82; go_loud (refine (H2.out _ HW1.out.1.drew).mono ?_); rintro e w2 ⟨rfl, hb2⟩; have HB2 : Hid (Below W1.heap.size W1 w2) := zAA ((Below.refl _ W1).drew) hb2 (Nat.le_refl _); have q0 : w2.cell? ⟨wr.heap.size, 0, none⟩ = some (.string d.s) := (HB2.out.cell (p := ⟨wr.heap.size, 0, none⟩) HW1.out.2.2).trans d0; have q1 : w2.cell? ⟨wr.heap.size, 1, none⟩ = some (.int .i64 d.k) := (HB2.out.cell (p := ⟨wr.heap.size, 1, none⟩) HW1.out.2.2).trans d1; have q2 : w2.cell? ⟨w.heap.size, 1, none⟩ = some (.slice (some ⟨g, off, none⟩) n cap) := (HB2.out.cell (p := ⟨w.heap.size, 1, none⟩) HW1.out.2.1).trans dt; clear hb2))
        have HQ : Hid (w2.cell? ⟨w.heap.size, 1, none⟩ = some (.slice (some ⟨g, off, none⟩) n cap)) := q2
        clear d0 d1 dt q0 q1 q2
        by_cases hr0 : r = 0
        . subst hr0
          go_wp2
          go_roundw
          case rel => exact ⟨k + 1, by omega, by go_num, fst_step HF.out HKF.out, zAA HW1.out.1 HB2.out (by have := HW1.out; omega), HQ.out⟩
          case measure => simp [intOf]; omega
        . have hrb : (r == 0) = false := by simpa using hr0
          have hrd : (r != 0) = true := by simpa using hr0
          go_wp2
          go_ret
          exact ⟨zAD (by rw [HX.out, fst_hit HF.out (by rw [HKF.out]; exact hr0) hlt, HKF.out]), zAA HW1.out.1 HB2.out (by have := HW1.out; omega)⟩
      . obtain rfl : k = n := by omega
        clear hf hB bt
        go_wp2
        go_ret
        exact ⟨zAD (by rw [HX.out, HF.out]), HB.out⟩
 . have HX : Hid (T = c) := by rw [← HT.out]; unfold tchk; simp only; rw [if_pos (by rw [HC.out]; exact hc0), HC.out]; exact rfl
   have hrb : (c == 0) = false := by simpa using hc0
   have hrd : (c != 0) = true := by simpa using hc0
   go_enter Tryz.func53, Tryz.ntmps53
   go_wp2_with (go_at_call 81; refine (H1.out _).mono ?_; rintro e w2 ⟨rfl, rfl⟩)
   go_ret
   exact ⟨zAD HX.out.symm, (Below.refl _ w).alloc (Nat.le_refl _) _⟩
theorem FieldsAt.shape {w : World} {v : Value} {l : List Fd} (h : FieldsAt w v l) : ∃ p cap, v = .slice p l.length cap ∧ l.length ≤ cap ∧ (l.length : Int) ≤ 9223372036854775807 := by
  obtain ⟨p, cap, h1, h2, h3, _⟩ := h
  exact ⟨p, cap, h1, h2, by unfold maxLen at h3; omega⟩
theorem ValsAt.shape {w : World} {v : Value} {l : List Vl} (h : ValsAt w v l) : ∃ p cap, v = .slice p l.length cap ∧ l.length ≤ cap ∧ (l.length : Int) ≤ 9223372036854775807 := by
  obtain ⟨p, cap, h1, h2, h3, _⟩ := h
  exact ⟨p, cap, h1, h2, by unfold maxLen at h3; omega⟩
def fld (t : Ty) (name : ByteArray) : Int × Int × Int :=
  if tchk t ≠ 0 then (0, 0, tchk t) else if fnd name t.fs 0 < 0 then (0, 0, 6)
  else (fnd name t.fs 0, (t.fs.getD (fnd name t.fs 0).toNat ⟨ByteArray.empty, 0⟩).k, 0)
theorem field_any (t : Ty) (v : Value) (name : ByteArray) (w : World) (hv : FieldsAt w v t.fs) :
   Calls Tryz.prog 154 #[.agg #[.string t.s, v], .string name] w fun e w' => e = .returned (.tuple #[.int .i64 (fld t name).1, .int .i64 (fld t name).2.1, .int .i64 (fld t name).2.2]) ∧ Below w.heap.size w w' := by
 obtain ⟨s, fs⟩ := t
 obtain ⟨T, hT⟩ : ∃ T, tchk ⟨s, fs⟩ = T := ⟨_, rfl⟩
 obtain ⟨P, hP⟩ : ∃ P, fnd name fs 0 = P := ⟨_, rfl⟩
 obtain ⟨x, y, z, hR⟩ : ∃ x y z, fld ⟨s, fs⟩ name = (x, y, z) := ⟨_, _, _, rfl⟩
 simp only at hv
 have HV : Hid (FieldsAt w v fs) := hv
 have H1 : Hid (∀ W, Below w.heap.size w W → Calls Tryz.prog 53 #[.agg #[.string s, v]] W fun e w' => e = .returned (.int .i64 T) ∧ Below W.heap.size W w') := fun W hb => by rw [← hT]; exact checkType_any ⟨s, fs⟩ _ _ (HV.out.below hb)
 have H2 : Hid (∀ W, Below w.heap.size w W → Calls Tryz.prog 127 #[v, .string name] W fun e w' => e = .returned (.int .i64 P) ∧ Below W.heap.size W w') := fun W hb => by rw [← hP]; exact zA4 _ _ _ _ (HV.out.below hb)
 have HR : Hid ((x, y, z) = if T ≠ 0 then (0, 0, T) else if P < 0 then (0, 0, 6) else (P, (fs.getD P.toNat ⟨ByteArray.empty, 0⟩).k, 0)) := by rw [← hR]; unfold fld; simp only; rw [hT, hP]; exact rfl
 have HPL : Hid (P < 0 ∨ (0 ≤ P ∧ P < fs.length)) := by have := fnd_le name fs 0; rw [hP] at this; simp at this; exact this
 rw [hR]
 obtain ⟨n, hn⟩ : ∃ n, fs.length = n := ⟨_, rfl⟩
 have HN : Hid (fs.length = n) := hn
 obtain ⟨p, cap, hsh, _, _, hfc⟩ := hv
 rw [hn] at hsh
 subst hsh
 have HFC : Hid (0 < fs.length → ∃ g off, p = some ⟨g, off, none⟩ ∧ ∀ j (hj : j < fs.length), g < w.heap.size ∧ w.cell? ⟨g, off + j * 2, none⟩ = some (.string fs[j].s) ∧ w.cell? ⟨g, off + j * 2 + 1, none⟩ = some (.int .i64 fs[j].k)) := hfc
 clear hT hP hR hfc hn
 go_enter Tryz.func154, Tryz.ntmps154
 go_wp2_with fail
 refine (H1.out _ ((Below.refl _ w).alloc (Nat.le_refl _) _)).mono ?_
 rintro e w1 ⟨rfl, hb1⟩
 have HB1 : Hid (Below w.heap.size w w1) := zAA ((Below.refl _ w).alloc (Nat.le_refl _) (.cells #[.string s, .slice p n cap] 59)) hb1 (by simp)
 have c1 : w1.cell? ⟨w.heap.size, 1, none⟩ = some (.slice p n cap) := (hb1.cell (by simp)).trans (zAN rfl rfl)
 clear hb1
 by_cases hT0 : T = 0
 . subst hT0
   go_wp2_with fail
   refine (H2.out _ HB1.out).mono ?_
   rintro e w2 ⟨rfl, hb2⟩
   have HB2 : Hid (Below w.heap.size w w2) := zAA HB1.out hb2 HB1.out.size
   have d1 : w2.cell? ⟨w.heap.size, 1, none⟩ = some (.slice p n cap) := (hb2.cell (World.block_lt_of_cell? _ _ c1)).trans c1
   clear hb2 c1
   by_cases hP0 : P < 0
   . have hr := HR.out
     simp [hP0] at hr
     obtain ⟨rfl, rfl, rfl⟩ := hr
     go_wp2
     go_ret3
     exact ⟨rfl, HB2.out⟩
   . have hpl : 0 ≤ P ∧ P < fs.length := by rcases HPL.out with h | h; exact absurd h hP0; exact h
     obtain ⟨j, hj⟩ : ∃ j : Nat, P = (j : Int) := ⟨P.toNat, by omega⟩
     subst hj
     have hjl : j < fs.length := by omega
     have hr := HR.out
     simp [hP0, List.getElem?_eq_getElem hjl] at hr
     obtain ⟨rfl, hy, rfl⟩ := hr
     obtain ⟨g, off, hg, hcl⟩ := HFC.out (by omega)
     obtain ⟨hgs, c0j, c1j⟩ := hcl j hjl
     subst hg
     rw [← hy] at c1j
     have b1 : w2.cell? ⟨g, off + j * 2 + 1, none⟩ = some (.int .i64 y) := (HB2.out.cell (p := ⟨g, off + j * 2 + 1, none⟩) hgs).trans c1j
     have j1 : (0 : Int) ≤ (j : Int) := by omega
     have j2 : (j : Int) < (n : Int) := by have := HN.out; omega
     have hp0 : decide ((j : Int) < 0) = false := by simp
     clear hcl c0j c1j hgs hy hpl hjl hP0 HR HPL
     go_wp2_with fail
     go_quiet (fail)
     go_wp2
     go_ret3
     exact ⟨rfl, zAA HB2.out (Go.Joins.below_draws _ _ _) (Nat.le_refl _)⟩
 . have hb1 : (T == 0) = false := by simpa using hT0
   have hb2 : (T != 0) = true := by simpa using hT0
   have hr := HR.out
   simp [hT0] at hr
   obtain ⟨rfl, rfl, rfl⟩ := hr
   clear c1
   go_wp2
   go_ret3
   exact ⟨rfl, HB1.out⟩
end Go.Proofs.YtnlmknbhppdliaaGreatDoor.V4
namespace Go.Proofs.YtnlmknbhppdliaaGreatDoor.Chk
open Go.ChangeShapes Go.WideShapes Go.ChangeAt Go.RowKit Go.Maps
set_option linter.unusedVariables false
set_option linter.unusedSimpArgs false
set_option maxRecDepth 20000
theorem zBM {α : Type} {enc : α → List Dat} {e z : Nat} {w : World} {p : Option Addr} {n cap : Nat} {cs : List α} (h : Rd w (.row e z (cs.map enc)) (.slice p n cap)) : n = cs.length ∧ cs.length ≤ cap ∧ cap ≤ maxLen := by
 generalize hd : Dat.row e z (cs.map enc) = d at h
 generalize hv : Value.slice p n cap = v at h
 cases h with
 | lit v => cases hd
 | nil e' z' p' cap' h1 =>
  simp only [Dat.row.injEq] at hd
  have h0 : cs.length = 0 := by have := congrArg List.length hd.2.2; simpa using this
  simp only [Value.slice.injEq] at hv
  obtain ⟨_, rfl, rfl⟩ := hv
  exact ⟨h0.symm, by omega, h1⟩
 | row e' z' l g off cap' xs h1 h2 h3 h4 h5 h6 =>
  simp only [Dat.row.injEq] at hd
  obtain ⟨rfl, rfl, rfl⟩ := hd
  simp only [Value.slice.injEq] at hv
  obtain ⟨_, rfl, rfl⟩ := hv
  rw [List.length_map] at h2 ⊢
  exact ⟨rfl, h2, h3⟩
def vF (f : Fd) : V4.Fd := ⟨f.n, f.k⟩
theorem zC5 {w : World} {v : Value} {fs : List Fd} (h : Rd w (.row 103 2 (fs.map encF)) v) : V4.FieldsAt w v (fs.map vF) := by
  obtain ⟨p, cap, rfl, _, hat⟩ := zAG lenF h
  obtain ⟨_, h1, h2⟩ := zBM h
  have hl : (fs.map vF).length = fs.length := by simp
  refine ⟨p, cap, by rw [hl], by rw [hl]; exact h1, h2, fun h0 => ?_⟩
  obtain ⟨g, off, rfl, hr⟩ := hat (by rw [hl] at h0; exact h0)
  refine ⟨g, off, rfl, fun j hj => ?_⟩
  have hj' : j < fs.length := by rw [hl] at hj; exact hj
  obtain ⟨us, r1, r2⟩ := hr w (Below.refl _ _) j hj'
  rw [rdF r2] at r1
  have c0 : w.cell? ⟨g, off + j * 2, none⟩ = some (.string fs[j].n) := by simpa using r1 0 _ rfl
  have c1 : w.cell? ⟨g, off + j * 2 + 1, none⟩ = some (.int .i64 fs[j].k) := r1 1 _ rfl
  refine ⟨World.block_lt_of_cell? _ _ c0, ?_, ?_⟩
  . rw [List.getElem_map]; exact c0
  . rw [List.getElem_map]; exact c1
theorem fst_eq (f : Nat → Int) : ∀ n, V4.fst f n = fst f n
  | 0 => rfl
  | n + 1 => by unfold V4.fst fst; rw [fst_eq f n]
theorem zGH (s : ByteArray) : V4.nchk s = nchk s := by
  unfold V4.nchk nchk
  rw [fst_eq]
  rfl
theorem fnd_eq (nm : ByteArray) : ∀ (fs : List Fd) (k : Nat), V4.fnd nm (fs.map vF) k = ixq (fun f => seq f.n nm) fs k
 | [], k => rfl
 | f :: r, k => by
  rw [List.map_cons, V4.fnd, ixq, fnd_eq nm r (k + 1)]
  rfl
theorem anyS_eq (nm : ByteArray) (fs : List Fd) : V4.anyS nm (fs.map vF) = fs.any (fun d => seq d.n nm) := by
  unfold V4.anyS
  rw [List.any_map]
  rfl
theorem fck_eq (f : Fd) (done : List Fd) : V4.fck (vF f) (done.map vF) = if fdk f ≠ 0 then fdk f else if done.any (fun d => seq d.n f.n) = true then 7 else 0 := by
 unfold V4.fck fdk
 rw [zGH, anyS_eq]
 show (if nchk f.n ≠ 0 then nchk f.n else if f.k ≠ 1 ∧ f.k ≠ 2 then 3 else if done.any (fun d => seq d.n f.n) = true then 7 else 0) = _
 by_cases h1 : nchk f.n = 0
 . simp only [h1, ne_eq, not_true, if_false]
   by_cases h2 : 1 ≤ f.k ∧ f.k ≤ 2
   . rw [if_neg (show ¬ (¬ f.k = 1 ∧ ¬ f.k = 2) by omega)]; simp [h2]
   . rw [if_pos (show (¬ f.k = 1 ∧ ¬ f.k = 2) by omega)]; simp [h2]
 . simp [h1]
theorem tfs_eq : ∀ (rest done : List Fd), V4.fst (V4.fchk ((done ++ rest).map vF)) done.length = 0 → V4.fst (V4.fchk ((done ++ rest).map vF)) (done ++ rest).length = tfs done rest
 | [], done, h => by simpa [tfs] using h
 | f :: r, done, h => by
  have hl : done.length < ((done ++ f :: r).map vF).length := by simp
  have e1 : V4.fchk ((done ++ f :: r).map vF) done.length = V4.fck (vF f) (done.map vF) := by
    rw [V4.fchk_at hl]
    congr 1
    . simp
    . simp [← List.map_take]
  rw [fck_eq] at e1
  rw [tfs]
  have hn : done.length < (done ++ f :: r).length := by simp
  by_cases h1 : fdk f = 0
  . rw [if_neg (fun c => c h1)]
    rw [if_neg (fun c => c h1)] at e1
    by_cases h2 : done.any (fun d => seq d.n f.n) = true
    . rw [if_pos h2]
      rw [if_pos h2] at e1
      rw [V4.fst_hit h (by rw [e1]; decide) hn, e1]
    . rw [if_neg h2]
      rw [if_neg h2] at e1
      have hs := V4.fst_step h e1
      have ih := tfs_eq r (done ++ [f]) (by simpa using hs)
      simpa using ih
  . rw [if_pos h1]
    rw [if_pos h1] at e1
    rw [V4.fst_hit h (by rw [e1]; exact h1) hn, e1]
theorem zGY (n : ByteArray) (fs : List Fd) : V4.tchk ⟨n, fs.map vF⟩ = tyk n fs := by
  unfold V4.tchk tyk
  simp only [zGH, List.length_map]
  have h := tfs_eq fs [] rfl
  simp only [List.nil_append] at h
  rw [h]
theorem zE1 (n : ByteArray) (fs : List Fd) (v : Value) (w : World) (h : Rd w (.row 103 2 (fs.map encF)) v) :
  Calls Tryz.prog 53 #[.agg #[.string n, v]] w fun e w' => e = .returned (.int .i64 (tyk n fs)) ∧ Below w.heap.size w w' := by
 have := V4.checkType_any ⟨n, fs.map vF⟩ v w (zC5 h)
 rw [zGY] at this
 exact this
theorem fld_eq {n : ByteArray} {fs : List Fd} (nm : ByteArray) (h : tyk n fs = 0) : (V4.fld ⟨n, fs.map vF⟩ nm).2.1 = (fck fs nm).1 ∧ (V4.fld ⟨n, fs.map vF⟩ nm).2.2 = (fck fs nm).2 := by
 unfold V4.fld
 rw [zGY, h, if_neg (by decide)]
 simp only [fnd_eq]
 have e : ixq (fun f => seq f.n nm) fs 0 = fdq fs nm := rfl
 rw [e]
 unfold fck
 by_cases c : fdq fs nm < 0
 . rw [if_pos c, if_pos c]; exact ⟨rfl, rfl⟩
 . rw [if_neg c, if_neg c]
   rcases zA2 (q := fun f : Fd => seq f.n nm) fs 0 with d | ⟨j, hj, d, _⟩
   . exact absurd (show fdq fs nm < 0 by rw [show fdq fs nm = -1 from d]; decide) c
   . have d' : fdq fs nm = (j : Int) := by show ixq _ _ _ = _; rw [d]; simp
     rw [d']
     simp [hj, vF]
theorem zA5 (n : ByteArray) (fs : List Fd) (v : Value) (nm : ByteArray) (w : World) (h : Rd w (.row 103 2 (fs.map encF)) v) (ht : tyk n fs = 0) :
  Calls Tryz.prog 129 #[.agg #[.string n, v], .string nm] w fun e w' => e = .returned (.tuple #[.int .i64 (fck fs nm).1, .int .i64 (fck fs nm).2]) ∧ Below w.heap.size w w' := by
 have hc := fun W (hW : Below w.heap.size w W) => V4.field_any ⟨n, fs.map vF⟩ v nm W (zC5 (h.later hW))
 obtain ⟨e1, e2⟩ := fld_eq (n := n) (fs := fs) nm ht
 rw [e1, e2] at hc
 generalize (V4.fld ⟨n, fs.map vF⟩ nm).1 = x0 at hc
 generalize (fck fs nm).1 = x1 at *
 generalize (fck fs nm).2 = x2 at *
 obtain ⟨p, cap, rfl, _, _⟩ := zAG lenF h
 have HC := hid hc
 have HB := hid ((Below.refl w.heap.size w).alloc (Nat.le_refl _) (.cells #[.string n, .slice p fs.length cap] 59))
 clear hc e1 e2 h
 go_enter Tryz.func129, Tryz.ntmps129
 go_wp2_with fail
 refine (HC.out _ HB.out).mono ?_
 rintro e w2 ⟨rfl, hb⟩
 have HB2 := hid (zAA HB.out hb HB.out.size)
 clear hb
 go_wp2_with fail
 go_ret2
 exact ⟨rfl, HB2.out⟩
def knV (p : Int × Int) : Value := .agg #[.int .i64 p.1, .int .i64 p.2]
def knD (p : Int × Int) : DataW Unit := .agg [.lit (.int .i64 p.1), .lit (.int .i64 p.2)]
def knE : Value → Option (DataW Unit × List MemPlace)
  | .agg ⟨[.int .i64 a, .int .i64 b]⟩ => some (.agg [.lit (.int .i64 a), .lit (.int .i64 b)], [])
  | _ => none
theorem knE_mk (p : Int × Int) : knE (knV p) = some (knD p, []) := rfl
theorem zHK {v : Value} {p : Int × Int} {ps : List MemPlace} (h : knE v = some (knD p, ps)) : v = knV p := by
 unfold knE at h
 split at h
 . simp [knD] at h
   obtain ⟨⟨rfl, rfl⟩, _⟩ := h
   rfl
 . cases h
theorem lawS : Keyed Tryz.prog 9 := string_keyed Tryz.underlying9
theorem zeroK (w : World) : (zeroValue 212).run Tryz.prog w = .ok (knV (0, 0)) w := by kernel_rfl
theorem keyS {s : ByteArray} (h : s.size ≤ maxLen) : keyOf Tryz.prog 9 (.string s) = some (.string s.data.toList) := _root_.Go.WideMaps.keyOf_string_mk Tryz.underlying9 h
theorem zE0 {x y : List UInt8} (h : x ≠ y) : Lit.string x ≠ Lit.string y := fun e => h (by cases e; rfl)
abbrev Kns := List (ByteArray × (Int × Int))
def lkp (K : Kns) (x : List UInt8) : Option (Int × Int) := (K.find? fun p => p.1.data.toList == x).map (·.2)
theorem zGO (K : Kns) (s : ByteArray) (p : Int × Int) (x : List UInt8) : lkp (K ++ [(s, p)]) x = match lkp K x with | some q => some q | none => if s.data.toList = x then some p else none := by
 unfold lkp
 rw [List.find?_append]
 cases h : K.find? (fun p => p.1.data.toList == x) with
 | some q => rfl
 | none =>
  by_cases c : s.data.toList = x
  . simp [c]
  . simp [c]
def Km (w : World) (mb : Nat) (K : Kns) (n : Nat) : Prop :=
  ∃ D : DataW Unit, w.ownsMap Tryz.prog 9 knE mb n D ∧ (∀ x, Maps.has D (.string x) = (lkp K x).isSome) ∧ ∀ x p, lkp K x = some p → D.atKey (.string x) (knD (0, 0)) = knD p
theorem Km.block {w w' : World} {mb : Nat} {K : Kns} {n : Nat} (h : Km w mb K n) (e : w'.heap[mb]? = w.heap[mb]?) : Km w' mb K n := by
  obtain ⟨D, ⟨es, clock, hb, r⟩, r2⟩ := h
  exact ⟨D, ⟨es, clock, by rw [e]; exact hb, r⟩, r2⟩
theorem Km.lt {w : World} {mb : Nat} {K : Kns} {n : Nat} (h : Km w mb K n) : mb < w.heap.size := let ⟨_, h, _⟩ := h; h.lt
theorem Km.later {w w' : World} {mb : Nat} {K : Kns} {n : Nat} (h : Km w mb K n) (hb : Below w.heap.size w w') : Km w' mb K n := h.block (hb.block _ h.lt)
theorem km_made (w : World) : Km (w.alloc (.map #[] 0)) w.heap.size [] 0 :=
  ⟨.map [], World.ownsMap_made _ _ _ _, fun x => rfl, fun x p h => by cases h⟩
theorem Km.look {w : World} {mb : Nat} {K : Kns} {n : Nat} (h : Km w mb K n) {s : ByteArray} (hs : s.size ≤ maxLen) :
  (Instr.lookup 172 (.map (some mb)) (.string s) false).run Tryz.prog w = .ok (knV ((lkp K s.data.toList).getD (0, 0))) w := by
 obtain ⟨D, h, h1, h2⟩ := h
 obtain ⟨es, clock, hb, F, hsz, hD⟩ := h
 have key : ∃ v ps, (Instr.lookup 172 (.map (some mb)) (.string s) false).run Tryz.prog w = .ok v w ∧ knE v = some (D.atKey (.string s.data.toList) (knD (0, 0)), ps) := by
  rw [hD]
  rcases Maps.fit_look false lawS Tryz.underlying172 (zeroK w) hb F (keyS hs) with ⟨hrun, _, hat⟩ | ⟨e0, y, _, _, hrun, hRv, hat, _⟩
  . exact ⟨_, [], hrun, by rw [hat (knD (0, 0))]; exact knE_mk (0, 0)⟩
  . exact ⟨_, y.2, hrun, by rw [hat (knD (0, 0))]; exact hRv⟩
 obtain ⟨v, ps, hrun, hv⟩ := key
 rw [hrun]
 have e : v = knV ((lkp K s.data.toList).getD (0, 0)) := by
  cases hm : lkp K s.data.toList with
  | none =>
    have := h1 s.data.toList
    rw [hm] at this
    rw [atKey_of_not_has this] at hv
    exact zHK hv
  | some p =>
    rw [h2 _ p hm] at hv
    exact zHK hv
 rw [e]
theorem Km.store {w : World} {mb : Nat} {K : Kns} {n : Nat} (h : Km w mb K n) {s : ByteArray} (hs : s.size ≤ maxLen) (hn : n ≤ 2000) (p : Int × Int) (hnew : lkp K s.data.toList = none) :
   ∃ w', (Instr.mapUpdate 172 (.map (some mb)) (.string s) (knV p)).run Tryz.prog w = .ok () w' ∧ Km w' mb (K ++ [(s, p)]) (n + 1) ∧ w.mapTurned w' mb := by
 obtain ⟨D, h, h1, h2⟩ := h
 obtain ⟨w', hrun, ho, ht⟩ := h.store lawS Tryz.underlying172 (by unfold maxLen; omega) (keyS hs) (knE_mk p)
 refine ⟨w', hrun, ⟨D.put (.string s.data.toList) (knD p), ho, fun y => ?_, fun y q hq => ?_⟩, ht⟩
 . rw [zGO]
   by_cases e : y = s.data.toList
   . subst e; rw [has_put_same h.isMap (by trivial), hnew]; simp
   . rw [has_put_other (zE0 e), h1 y]
     cases lkp K y with
     | some q => rfl
     | none => rw [if_neg (fun c => e c.symm)]
 . rw [zGO] at hq
   by_cases e : y = s.data.toList
   . subst e; rw [atKey_put_same h.isMap (by trivial)]
     rw [hnew] at hq; simp at hq; rw [hq]
   . rw [atKey_put_other (zE0 e)]
     cases hk : lkp K y with
     | some r => rw [hk] at hq; simp at hq; subst hq; exact h2 y _ hk
     | none => rw [hk, if_neg (fun c => e c.symm)] at hq; cases hq
theorem zEJ {w w' : World} {b : Nat} (h : w.mapTurned w' b) : Fr (fun i => i = b) w w' :=
  (Fr.refl (fun i => i = b) w).grown h.grown (fun k hk => by cases hk; exact .inl rfl)
section
variable {ops : Array Oper} {rest : List Oper} {o : Oper} {a : Act} {w : World} {Q : Exit → Act → World → Prop}
theorem zA3 (hg : o.guard = none) (m x : Operand) (hop : o.op = Op.lookup 172 m x false) (mb : Nat) (K : Kns) (n : Nat) (hm : a.eval m = .map (some mb)) (h : Km w mb K n) (s : ByteArray) (hs : s.size ≤ maxLen) (hx : a.eval x = .string s)
  (p : Int × Int) (hp : (lkp K s.data.toList).getD (0, 0) = p) (hK : wpList Tryz.prog ops Q rest (a.put o.dst (.agg #[.int .i64 p.1, .int .i64 p.2])) w) : wpList Tryz.prog ops Q (o :: rest) a w := by
 refine wpList_plain hg fun K' hK' => ?_
 subst hp
 unfold Oper.wp
 simp [execOp, hop, hm, hx, h.look hs, Result.andThen]
 exact hK' _ _ hK
theorem zGE (hg : o.guard = none) (m x v : Operand) (hop : o.op = Op.mapUpdate 172 m x v) (mb : Nat) (K : Kns) (n : Nat) (hm : a.eval m = .map (some mb)) (h : Km w mb K n) (hn : n ≤ 2000) (s : ByteArray) (hs : s.size ≤ maxLen) (hx : a.eval x = .string s) (p : Int × Int) (hnew : lkp K s.data.toList = none) (hv : a.eval v = .agg #[.int .i64 p.1, .int .i64 p.2])
  (hK : ∀ w', Km w' mb (K ++ [(s, p)]) (n + 1) → Fr (fun i => i = mb) w w' → wpList Tryz.prog ops Q rest (a.put o.dst undef) w') : wpList Tryz.prog ops Q (o :: rest) a w := by
 refine wpList_plain hg fun K' hK' => ?_
 obtain ⟨w', hrun, r1, r2⟩ := h.store hs hn p hnew
 unfold Oper.wp
 have hv' : a.eval v = knV p := hv
 simp [execOp, hop, hm, hx, hv', hrun, Result.andThen]
 exact hK' _ _ (hK w' r1 (zEJ r2))
end
/-! Names that are taken: nothing is known of them. -/
def ntE : Value → Option (DataW Unit × List MemPlace)
  | .agg ⟨[]⟩ => some (.agg [], [])
  | _ => none
theorem zeroN (w : World) : (zeroValue 169).run Tryz.prog w = .ok (.agg #[]) w := by kernel_rfl
def Nm (w : World) (mb : Nat) (L : List ByteArray) (n : Nat) : Prop :=
  ∃ D : DataW Unit, w.ownsMap Tryz.prog 9 ntE mb n D ∧ ∀ x, Maps.has D (.string x) = L.any (fun s => s.data.toList == x)
theorem Nm.block {w w' : World} {mb : Nat} {L : List ByteArray} {n : Nat} (h : Nm w mb L n) (e : w'.heap[mb]? = w.heap[mb]?) : Nm w' mb L n := by
  obtain ⟨D, ⟨es, clock, hb, r⟩, r2⟩ := h
  exact ⟨D, ⟨es, clock, by rw [e]; exact hb, r⟩, r2⟩
theorem Nm.lt {w : World} {mb : Nat} {L : List ByteArray} {n : Nat} (h : Nm w mb L n) : mb < w.heap.size := let ⟨_, h, _⟩ := h; h.lt
theorem Nm.later {w w' : World} {mb : Nat} {L : List ByteArray} {n : Nat} (h : Nm w mb L n) (hb : Below w.heap.size w w') : Nm w' mb L n := h.block (hb.block _ h.lt)
theorem zG3 (w : World) : Nm (w.alloc (.map #[] 0)) w.heap.size [] 0 := ⟨.map [], World.ownsMap_made _ _ _ _, fun x => rfl⟩
theorem Nm.look {w : World} {mb : Nat} {L : List ByteArray} {n : Nat} (h : Nm w mb L n) {s : ByteArray} (hs : s.size ≤ maxLen) :
  (Instr.lookup 139 (.map (some mb)) (.string s) true).run Tryz.prog w = .ok (.tuple #[.agg #[], .bool (L.any (fun r => r.data.toList == s.data.toList))]) w := by
 obtain ⟨D, h, h1⟩ := h
 obtain ⟨v, ps, hrun, hv⟩ := h.look_ok lawS Tryz.underlying139 (zeroN w) (show ntE (.agg #[]) = some (.agg [], []) from rfl) (keyS hs)
 rw [hrun, h1]
 have e : v = .agg #[] := by
  unfold ntE at hv
  split at hv
  . rfl
  . cases hv
 rw [e]
theorem Nm.store {w : World} {mb : Nat} {L : List ByteArray} {n : Nat} (h : Nm w mb L n) {s : ByteArray} (hs : s.size ≤ maxLen) (hn : n ≤ 2000) :
   ∃ w', (Instr.mapUpdate 139 (.map (some mb)) (.string s) (.agg #[])).run Tryz.prog w = .ok () w' ∧ Nm w' mb (L ++ [s]) (n + 1) ∧ w.mapTurned w' mb := by
 obtain ⟨D, h, h1⟩ := h
 obtain ⟨w', hrun, ho, ht⟩ := h.store lawS Tryz.underlying139 (by unfold maxLen; omega) (keyS hs) (show ntE (.agg #[]) = some (.agg [], []) from rfl)
 refine ⟨w', hrun, ⟨D.put (.string s.data.toList) (.agg []), ho, fun y => ?_⟩, ht⟩
 by_cases e : y = s.data.toList
 . subst e; rw [has_put_same h.isMap (by trivial)]; simp
 . rw [has_put_other (zE0 e), h1 y]
   have : (s.data.toList == y) = false := by simpa using fun c => e c.symm
   simp [this]
section
variable {ops : Array Oper} {rest : List Oper} {o : Oper} {a : Act} {w : World} {Q : Exit → Act → World → Prop}
theorem zFB (hg : o.guard = none) (m x : Operand) (hop : o.op = Op.lookup 139 m x true) (mb : Nat) (L : List ByteArray) (n : Nat) (hm : a.eval m = .map (some mb)) (h : Nm w mb L n) (s : ByteArray) (hs : s.size ≤ maxLen) (hx : a.eval x = .string s)
  (b : Bool) (hb : L.any (fun r => r.data.toList == s.data.toList) = b) (hK : wpList Tryz.prog ops Q rest (a.put o.dst (.tuple #[.agg #[], .bool b])) w) : wpList Tryz.prog ops Q (o :: rest) a w := by
 refine wpList_plain hg fun K' hK' => ?_
 have hl := h.look hs
 rw [hb] at hl
 unfold Oper.wp
 simp [execOp, hop, hm, hx, hl, Result.andThen]
 exact hK' _ _ hK
theorem zHD (hg : o.guard = none) (m x v : Operand) (hop : o.op = Op.mapUpdate 139 m x v) (mb : Nat) (L : List ByteArray) (n : Nat) (hm : a.eval m = .map (some mb)) (h : Nm w mb L n) (hn : n ≤ 2000) (s : ByteArray) (hs : s.size ≤ maxLen) (hx : a.eval x = .string s) (hv : a.eval v = .agg #[])
  (hK : ∀ w', Nm w' mb (L ++ [s]) (n + 1) → Fr (fun i => i = mb) w w' → wpList Tryz.prog ops Q rest (a.put o.dst undef) w') : wpList Tryz.prog ops Q (o :: rest) a w := by
 refine wpList_plain hg fun K' hK' => ?_
 obtain ⟨w', hrun, r1, r2⟩ := h.store hs hn
 unfold Oper.wp
 simp [execOp, hop, hm, hx, hv, hrun, Result.andThen]
 exact hK' _ _ (hK w' r1 (zEJ r2))
end
theorem zCV (p : Option Addr) (n c : Nat) (w : World) : Calls Tryz.prog 61 #[.slice p n c] w fun e w' => e = .returned (.func (.func 95) #[] #[.pointer (some ⟨w.heap.size, 0, none⟩)]) ∧ w' = w.alloc (.cells #[.slice p n c] 25) := by
  go_enter Tryz.func61, Tryz.ntmps61
  go_wp2_with fail
  go_ret
  exact ⟨rfl, rfl⟩
theorem zFU (tn nm : ByteArray) (p : Option Addr) (n c b : Nat) (w : World) (h : w.cell? ⟨b, 0, none⟩ = some (.string nm)) : Calls Tryz.prog 96 #[.agg #[.string tn, .slice p n c], .pointer (some ⟨b, 0, none⟩)] w fun e w' => e = .returned (.bool (seq tn nm)) ∧ Below w.heap.size w w' := by
  have hb := World.block_lt_of_cell? _ _ h
  have h' : (w.alloc (.cells #[.string tn, .slice p n c] 59)).cell? ⟨b, 0, none⟩ = some (.string nm) := (((Below.refl w.heap.size w).alloc (Nat.le_refl _) _).cell (p := ⟨b, 0, none⟩) hb).trans h
  unfold seq
  go_enter Tryz.func96, Tryz.ntmps96
  go_wp2_with fail
  go_ret
  exact ⟨rfl, (Below.refl _ _).alloc (Nat.le_refl _) _⟩
theorem zDC (ts : List Tp) (v : Value) (nm : ByteArray) (b : Nat) (w : World) (h : Rd w (.row 59 2 (ts.map encY)) v) (hn : w.cell? ⟨b, 0, none⟩ = some (.string nm)) :
  Calls Tryz.prog 30 #[v, .func (.func 96) #[] #[.pointer (some ⟨b, 0, none⟩)]] w fun e w' => e = .returned (.int .i64 (tyq ts nm)) ∧ Below w.heap.size w w' := by
 obtain ⟨p, cap, rfl, hmx, hat⟩ := zAG lenY h
 have HAT : Hid (At encY 2 w p ts) := hat
 obtain ⟨n, hnl⟩ : ∃ n, ts.length = n := ⟨_, rfl⟩
 have HN := hid hnl
 have HNM := hid hn
 rw [hnl] at hmx ⊢
 clear h hat hnl hn
 go_enter Tryz.func30, Tryz.ntmps30
 go_wp2_with fail
 go_loopg [8] (n + 1) (fun gg i wr => ∃ k : Nat, k ≤ n ∧ gg = n + 1 - k ∧ i = .int .i64 (k : Nat) ∧ (∀ (j : Nat) (hj : j < ts.length), j < k → seq ts[j].n nm = false) ∧ Below w.heap.size w wr)
 case atStart => exact ⟨0, by omega, by omega, rfl, fun j _ h => by omega, Below.refl _ _⟩
 case round =>
  obtain ⟨k, hk, rfl, rfl, hno, hB⟩ := hrel
  have HB := hid hB
  by_cases hlt : k < n
  . have hkc : k < ts.length := by have := HN.out; omega
    obtain ⟨g, off, rfl, hrd⟩ := HAT.out (by omega)
    obtain ⟨us, r1, o1⟩ := hrd wr hB k hkc
    obtain ⟨fv, z1, o2⟩ := rdY o1
    obtain ⟨fp, fn, fc, rfl⟩ := zAB o2
    rw [z1] at r1
    have c0 : wr.cell? ⟨g, off + k * 2, none⟩ = some (.string ts[k].n) := by simpa using r1 0 _ rfl
    have c1 : wr.cell? ⟨g, off + k * 2 + 1, none⟩ = some (.slice fp fn fc) := r1 1 _ rfl
    have HCM := hid (zFU ts[k].n nm fp fn fc b wr ((hB.cell (p := ⟨b, 0, none⟩) (World.block_lt_of_cell? _ _ HNM.out)).trans HNM.out))
    have HNO := hid hno
    obtain ⟨q, hq⟩ : ∃ q, seq ts[k].n nm = q := ⟨_, rfl⟩
    have HQ := hid hq
    rw [hq] at HCM
    have HQ2 : Hid (∀ x, x = ts[k].n → seq x nm = q) := fun x hx => by rw [hx]; exact HQ.out
    obtain ⟨tn, htn⟩ : ∃ tn, ts[k].n = tn := ⟨_, rfl⟩
    have HQK : Hid (seq ts[k].n nm = q) := HQ.out
    rw [htn] at c0 HCM
    clear htn HQ HQ2
    have i1 : (0 : Int) ≤ (k : Int) := by omega
    have i2 : (k : Int) < (n : Int) := by omega
    clear hno hB hrd o1 o2 z1 r1 hq
    cases q with
    | true =>
     go_wp2_with (go_at_call 96; refine HCM.out.mono ?_; rintro e w2 ⟨rfl, hb2⟩; have HB2 := hid (zAA HB.out hb2 HB.out.size); clear hb2)
     go_ret
     exact ⟨zAD (by show (k : Int) = ixq _ _ _; rw [zBB (q := fun t : Tp => seq t.n nm) ts 0 k hkc (fun j hj => HNO.out j (by omega) hj) (by exact HQK.out)]; simp), HB2.out⟩
    | false =>
     go_wp2_with (go_at_call 96; refine HCM.out.mono ?_; rintro e w2 ⟨rfl, hb2⟩; have HB2 := hid (zAA HB.out hb2 HB.out.size); clear hb2)
     go_roundg (n + 1 - (k + 1))
     case rel =>
      refine ⟨k + 1, by omega, rfl, by go_num, fun j hj hjk => ?_, HB2.out⟩
      by_cases c : j < k
      . exact HNO.out j hj c
      . obtain rfl : j = k := by omega
        exact HQK.out
     case measure => omega
  . obtain rfl : k = n := by omega
    have HR := hid (show tyq ts nm = -1 from zAZ _ _ (fun x hx => by
     obtain ⟨j, hj, rfl⟩ := List.getElem_of_mem hx
     exact hno j hj (by have := HN.out; omega)))
    clear hno hB
    go_wp2_with fail
    go_ret
    exact ⟨zAD HR.out.symm, HB.out⟩
theorem zA4 (ts : List Tp) (tv : Value) (nm : ByteArray) (b : Nat) (w : World) (h : Rd w (.row 59 2 (ts.map encY)) tv) (hb : w.cell? ⟨b, 0, none⟩ = some tv) :
  Calls Tryz.prog 95 #[.string nm, .pointer (some ⟨b, 0, none⟩)] w fun e w' => e = .returned (.int .i64 (tyq ts nm)) ∧ Below w.heap.size w w' := by
 have hB : Below w.heap.size w (w.alloc (.cells #[.string nm] 9)) := (Below.refl _ _).alloc (Nat.le_refl _) _
 have h2 := zDC ts tv nm w.heap.size (w.alloc (.cells #[.string nm] 9)) (h.later hB) (zAC (heap_alloc_new _ _) 0)
 obtain ⟨p, cap, rfl, _, _⟩ := zAG lenY h
 have hb' : (w.alloc (.cells #[.string nm] 9)).cell? ⟨b, 0, none⟩ = some (.slice p ts.length cap) := (hB.cell (p := ⟨b, 0, none⟩) (World.block_lt_of_cell? _ _ hb)).trans hb
 have HC := hid h2
 have HB := hid hB
 clear h2 hB h hb
 go_enter Tryz.func95, Tryz.ntmps95
 go_wp2_with fail
 refine HC.out.mono ?_
 rintro e w2 ⟨rfl, hb2⟩
 have HB2 := hid (zAA HB.out hb2 HB.out.size)
 clear hb2
 go_wp2_with fail
 go_ret
 exact ⟨rfl, HB2.out⟩
end Go.Proofs.YtnlmknbhppdliaaGreatDoor.Chk
