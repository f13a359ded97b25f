/-
  Lists of fields and of sides; a type; an emit.
-/
import Derived.Test.YtggfaglfchepfaaDoorQ1
namespace Go.Proofs.YtggfaglfchepfaaDoor
open Go.ChangeShapes Go.WideShapes Go.ChangeAt Go.RowKit Go.Maps
set_option linter.unusedVariables false
set_option linter.unusedSimpArgs false
theorem Env.grown {w w' : World} {g b : Nat} {V : Value} {L : List Tk} {s : St} {row : Option Nat} (h : Env w g V L s) (hg : w.grownBy w' row) (hr : ∀ k, row = some k → b ≤ k) (hb : g < b) : Env w' g V L s := by
  have hgl := blk_lt h.blk
  have hk : ∀ k, k ≤ g → w'.heap[k]? = w.heap[k]? := fun k hk => hg.block k (by omega) (fun e => by have := hr k e.symm; omega)
  exact h.on hg.size (fun k hk' => hk k (by omega)) ((hk g (Nat.le_refl _)).trans h.blk) h.pos h.opn
theorem holdsF (w : World) (S : Nat → Prop) (f : Fd) : HoldsL w S (encF f) (fdC f.n f.k) := .cons (.lit _) (.cons (.lit _) (.nil _ _))
/-- What a list of parts leaves. -/
def LPost {α : Type} (w : World) (g : Nat) (V : Value) (L : List Tk) (T z : Nat) (enc : α → List Dat) (l : List α) (s : St) (e : Ending) (w' : World) : Prop :=
  ∃ p cap, e = .returned (.slice p l.length cap) ∧ Holds w' (fun i => w.heap.size ≤ i) (.row T z (l.map enc)) (.slice p l.length cap) ∧ Env w' g V L s ∧ Fr (fun i => i = g) w w'
set_option maxHeartbeats 8000000 in
theorem listed_field (w : World) (g : Nat) (V : Value) (L : List Tk) (s : St) (h : Env w g V L s) :
    Calls Tryd.prog 87 #[rp g, .string ⟨#[125]⟩, .func (.func 88) #[rp g] #[]] w (LPost w g V L 71 2 encF (lst L [125] (fld L) s).1 (lst L [125] (fld L) s).2) := by
  have HG : Hid (Good (fld L)) := fld_g L
  obtain ⟨i0, a1, a2, a3, a4⟩ := info_parts infoF
  have HI : Hid (Tryd.prog.info? 71 = some i0 ∧ i0.zero = some (.agg #[.string ByteArray.empty, .int .i64 0]) ∧ i0.size = 2 ∧ i0.bytes = 24) := ⟨a1, a2, a3, a4⟩
  have HLEN : Hid (L.length ≤ 700) := h.len
  have HE0 : Hid (Env w g V L s) := h
  have HGW : Hid (g < w.heap.size) := blk_lt h.blk
  unfold lst
  cases hb_HT : see L [125] s
  · simp only [Bool.false_eq_true, if_false]
    have HT : Hid (∀ W, Env W g V L s → Calls Tryd.prog 42 #[rp g, .string ⟨#[125]⟩] W fun e w' => e = .returned (.bool false) ∧ Env w' g V L s ∧ Fr (fun i => i = g) W w') := fun W hW => by
      have := takes_any W g V L s [125] hW
      unfold tks at this
      rw [hb_HT] at this
      exact this
    obtain ⟨F, hF⟩ : ∃ F, sep L [44] (fld L) L.length ((fld L) s).2 [((fld L) s).1] = F := ⟨_, rfl⟩
    rw [hF]
    obtain ⟨s9, h_s9⟩ : ∃ s9, wnt L [125] F.2 = s9 := ⟨_, rfl⟩
    rw [h_s9]
    have HX : Hid (∀ W, Env W g V L F.2 → Calls Tryd.prog 86 #[rp g, .string ⟨#[125]⟩] W fun e w' => e = .returned (.tuple #[]) ∧ Env w' g V L s9 ∧ Fr (fun i => i = g) W w') := fun W hW => by
      have := wants_any W g V L F.2 [125] hW
      rw [h_s9] at this
      exact this
    have HC : Hid (∀ W s, Env W g V L s → Calls Tryd.prog 88 #[rp g] W fun e w' => e = .returned (.agg #[.string ((fld L) s).1.n, .int .i64 ((fld L) s).1.k]) ∧ Env w' g V L ((fld L) s).2 ∧ Fr (fun i => i = g) W w') := fun W s hW => field_any W g V L s hW
    have hg1 := HG.out s
    obtain ⟨c, hc⟩ : ∃ c, ((fld L) s).1 = c := ⟨_, rfl⟩
    obtain ⟨s1, hs1⟩ : ∃ s1, ((fld L) s).2 = s1 := ⟨_, rfl⟩
    have HC1 : Hid (∀ W, Env W g V L s → Calls Tryd.prog 88 #[rp g] W fun e w' => e = .returned (.agg #[.string c.n, .int .i64 c.k]) ∧ Env w' g V L s1 ∧ Fr (fun i => i = g) W w') := fun W hW => by
      have := HC.out W s hW
      rw [hc, hs1] at this
      exact this
    rw [hs1] at hg1
    rw [hc, hs1] at hF
    have HF0 : Hid (sep L [44] (fld L) L.length s1 [c] = F) := hF
    have HG1 : Hid (s.i ≤ s1.i ∧ s1.o = s.o) := hg1
    clear a1 a2 a3 a4 hF hc hs1 h hg1 h_s9 hb_HT
    obtain ⟨cn, ck⟩ := c
    go_enter Tryd.func87, Tryd.ntmps87
    go_wp2_with (first
      | (go_at_call 42; refine (HT.out _ HE0.out).mono ?_; rintro e w1 ⟨rfl, he1, hf1⟩; have HE1 : Hid (Env w1 g V L s ∧ Fr (fun i => i = g) w w1) := ⟨he1, hf1⟩; clear he1 hf1)
      | (go_at_call 88; refine (HC1.out _ HE1.out.1).mono ?_; rintro e w2 ⟨rfl, he2, hf2⟩; have HE2 : Hid (Env w2 g V L s1 ∧ Fr (fun i => i = g) w w2) := ⟨he2, HE1.out.2.trans hf2⟩; clear he2 hf2))
    have HR1 : Hid (Row (w2.alloc (.cells (fdC cn ck).toArray 71)) (fun i => w.heap.size ≤ i) 71 2 (.slice (some ⟨w2.heap.size, 0, none⟩) 1 1) ([(⟨cn, ck⟩ : Fd)].map encF)) := Row.new HE2.out.2.size rfl (holdsF _ _ (⟨cn, ck⟩ : Fd))
    have HE3 : Hid (Env (w2.alloc (.cells (fdC cn ck).toArray 71)) g V L s1 ∧ Fr (fun i => i = g) w (w2.alloc (.cells (fdC cn ck).toArray 71))) := ⟨HE2.out.1.alloc _, HE2.out.2.alloc _⟩
    clear HE1 HE2
    go_loopg [7] L.length (fun k v wr => ∃ (acc : List Fd) (st : St), (Env wr g V L st ∧ Fr (fun i => i = g) w wr) ∧ Row wr (fun i => w.heap.size ≤ i) 71 2 v (acc.map encF) ∧ sep L [44] (fld L) k st acc = F ∧ acc.length + k ≤ 701 ∧ L.length ≤ st.i + k)
    case atStart => exact ⟨_, s1, HE3.out, HR1.out, HF0.out, by have := HLEN.out; simp; omega, by omega⟩
    case round =>
      obtain ⟨acc, st, hen, hrow, hsp, hk1, hk2⟩ := hrel
      obtain ⟨p, cap, rfl⟩ := hrow.shape
      rw [List.length_map] at hrow ⊢
      obtain ⟨n, hn⟩ : ∃ n, acc.length = n := ⟨_, rfl⟩
      have HNN : Hid (acc.length = n) := hn
      rw [hn] at hrow hk1 ⊢
      have HLr : Hid (Env wr g V L st ∧ Fr (fun i => i = g) w wr) := hen
      have HRW : Hid (Row wr (fun i => w.heap.size ≤ i) 71 2 (.slice p n cap) (acc.map encF)) := hrow
      have HU := takes_any wr g V L st [44] hen.1
      have HK : Hid (n + gk ≤ 701 ∧ L.length ≤ st.i + gk) := ⟨hk1, hk2⟩
      unfold tks at HU
      clear hen hrow hn hk1 HE3 HR1 HF0
      cases hm : see L [44] st
      · rw [hm] at HU
        simp only [Bool.false_eq_true, if_false] at HU
        have HU2 : Hid (Calls Tryd.prog 42 #[rp g, .string ⟨#[44]⟩] wr fun e w' => e = .returned (.bool false) ∧ Env w' g V L st ∧ Fr (fun i => i = g) wr w') := HU
        rw [sep_stop hm] at hsp
        subst hsp
        clear HU hm hk2
        go_wp2_with (first
          | (go_at_call 42; refine HU2.out.mono ?_; rintro e w3 ⟨rfl, he3, hf3⟩; have HE4 : Hid (Env w3 g V L st ∧ Fr (fun i => i = g) w w3) := ⟨he3, HLr.out.2.trans hf3⟩; have HRW3 : Hid (Row w3 (fun i => w.heap.size ≤ i) 71 2 (.slice p n cap) (acc.map encF)) := HRW.out.fr hf3 HGW.out; clear he3 hf3)
          | (go_at_call 86; refine (HX.out _ HE4.out.1).mono ?_; rintro e w4 ⟨rfl, he4, hf4⟩; have HE5 : Hid (Env w4 g V L s9 ∧ Fr (fun i => i = g) w w4) := ⟨he4, HE4.out.2.trans hf4⟩; have HRW4 : Hid (Row w4 (fun i => w.heap.size ≤ i) 71 2 (.slice p n cap) (acc.map encF)) := HRW3.out.fr hf4 HGW.out; clear he4 hf4))
        go_ret
        refine ⟨p, cap, ?_, ?_, HE5.out.1, HE5.out.2⟩
        · simp only [HNN.out]; rfl
        · simp only [HNN.out]; exact HRW4.out.holds
      · rw [hm] at HU
        simp only [if_true] at HU
        have HU2 : Hid (Calls Tryd.prog 42 #[rp g, .string ⟨#[44]⟩] wr fun e w' => e = .returned (.bool true) ∧ Env w' g V L st.adv ∧ Fr (fun i => i = g) wr w') := HU
        have hlt := (see_lt hm).2
        obtain ⟨k2, rfl⟩ : ∃ k2, gk = k2 + 1 := ⟨gk - 1, by omega⟩
        rw [sep_step hm] at hsp
        have hg2 := HG.out st.adv
        obtain ⟨d, hd⟩ : ∃ d, ((fld L) st.adv).1 = d := ⟨_, rfl⟩
        obtain ⟨s2, hs2⟩ : ∃ s2, ((fld L) st.adv).2 = s2 := ⟨_, rfl⟩
        rw [hd, hs2] at hsp
        rw [hs2] at hg2
        have HC2 : Hid (∀ W, Env W g V L st.adv → Calls Tryd.prog 88 #[rp g] W fun e w' => e = .returned (.agg #[.string d.n, .int .i64 d.k]) ∧ Env w' g V L s2 ∧ Fr (fun i => i = g) W w') := fun W hW => by
          have := HC.out W st.adv hW
          rw [hd, hs2] at this
          exact this
        have HSP : Hid (sep L [44] (fld L) k2 s2 (acc ++ [d]) = F) := hsp
        have HG2 : Hid (st.i + 1 ≤ s2.i) := hg2.1
        have HLN : Hid ((acc.map encF).length ≤ 800) := by
          have h1 := HNN.out
          have h2 := HK.out
          show (acc.map encF).length ≤ 800
          rw [List.length_map]
          omega
        obtain ⟨dn, dk⟩ := d
        clear HU hm hd hs2 hsp hg2 hk2 hlt
        go_wp2_with (first
          | (go_at_call 42; refine HU2.out.mono ?_; rintro e w3 ⟨rfl, he3, hf3⟩; have HE4 : Hid (Env w3 g V L st.adv ∧ Fr (fun i => i = g) w w3) := ⟨he3, HLr.out.2.trans hf3⟩; have HRW3 : Hid (Row w3 (fun i => w.heap.size ≤ i) 71 2 (.slice p n cap) (acc.map encF)) := HRW.out.fr hf3 HGW.out; clear he3 hf3)
          | (go_at_call 88; refine (HC2.out _ HE4.out.1).mono ?_; rintro e w4 ⟨rfl, he4, hf4⟩; have HE5 : Hid (Env w4 g V L s2 ∧ Fr (fun i => i = g) w w4) := ⟨he4, HE4.out.2.trans hf4⟩; have HRW4 : Hid (Row w4 (fun i => w.heap.size ≤ i) 71 2 (.slice p n cap) (acc.map encF)) := HRW3.out.fr hf4 HGW.out; clear he4 hf4)
          | (at_builtin; refine wp_app (by rfl) _ _ 65 (by rfl) 71 i0 (.agg #[.string ByteArray.empty, .int .i64 0]) 2 24 Tryd.underlying65 HI.out.1 HI.out.2.1 HI.out.2.2.1 HI.out.2.2.2 rfl (by omega) w.heap.size (.slice p n cap) (acc.map encF) (by rfl) (HRW4.out.alloc _) (Nat.le_trans HE5.out.2.size (by simp)) (encF (⟨dn, dk⟩ : Fd)) (fdC dn dk) ⟨w4.heap.size, 0, none⟩ (by rfl) (by rfl) (World.news_of_block (heap_alloc_new _ _)) (by rfl) (holdsF _ _ (⟨dn, dk⟩ : Fd)) HLN.out (by omega) ?_; intro v' w5 hrw hgb hown; have HRW5 : Hid (Row w5 (fun i => w.heap.size ≤ i) 71 2 v' (acc.map encF ++ [encF (⟨dn, dk⟩ : Fd)])) := hrw; have HE6 : Hid (Env w5 g V L s2 ∧ Fr (fun i => i = g) w w5) := ⟨(HE5.out.1.alloc _).grown hgb hown HGW.out, (HE5.out.2.alloc _).grown hgb (fun k hk => .inr (hown k hk))⟩; clear hrw hgb hown))
        go_roundg k2
        case measure => omega
        case rel =>
          have hk := HK.out
          have hn := HNN.out
          have hg2 := HG2.out
          refine ⟨acc ++ [(⟨dn, dk⟩ : Fd)], s2, HE6.out, ?_, HSP.out, by simp; omega, by omega⟩
          rw [List.map_append]
          exact HRW5.out
  · simp only [if_true]
    have HT : Hid (∀ W, Env W g V L s → Calls Tryd.prog 42 #[rp g, .string ⟨#[125]⟩] W fun e w' => e = .returned (.bool true) ∧ Env w' g V L s.adv ∧ Fr (fun i => i = g) W w') := fun W hW => by
      have := takes_any W g V L s [125] hW
      unfold tks at this
      rw [hb_HT] at this
      exact this
    clear h hb_HT a1 a2 a3 a4
    go_enter Tryd.func87, Tryd.ntmps87
    go_wp2_with (go_at_call 42; refine (HT.out _ HE0.out).mono ?_; rintro e w1 ⟨rfl, he1, hf1⟩)
    go_ret
    exact ⟨none, 0, rfl, (Row.nil _ _ _ _).holds, he1, hf1⟩
set_option maxHeartbeats 8000000 in
theorem listed_side (w : World) (g : Nat) (V : Value) (L : List Tk) (s : St) (h : Env w g V L s) :
    Calls Tryd.prog 154 #[rp g, .string ⟨#[41]⟩, .func (.func 155) #[rp g] #[]] w (LPost w g V L 104 6 encO (lst L [41] (sde L) s).1 (lst L [41] (sde L) s).2) := by
  have HG : Hid (Good (sde L)) := sde_g L
  obtain ⟨i0, a1, a2, a3, a4⟩ := info_parts infoO
  have HI : Hid (Tryd.prog.info? 104 = some i0 ∧ i0.zero = some zO ∧ i0.size = 6 ∧ i0.bytes = 72) := ⟨a1, a2, a3, a4⟩
  have HLEN : Hid (L.length ≤ 700) := h.len
  have HE0 : Hid (Env w g V L s) := h
  have HGW : Hid (g < w.heap.size) := blk_lt h.blk
  unfold lst
  cases hb_HT : see L [41] s
  · simp only [Bool.false_eq_true, if_false]
    have HT : Hid (∀ W, Env W g V L s → Calls Tryd.prog 42 #[rp g, .string ⟨#[41]⟩] W fun e w' => e = .returned (.bool false) ∧ Env w' g V L s ∧ Fr (fun i => i = g) W w') := fun W hW => by
      have := takes_any W g V L s [41] hW
      unfold tks at this
      rw [hb_HT] at this
      exact this
    obtain ⟨F, hF⟩ : ∃ F, sep L [44] (sde L) L.length ((sde L) s).2 [((sde L) s).1] = F := ⟨_, rfl⟩
    rw [hF]
    obtain ⟨s9, h_s9⟩ : ∃ s9, wnt L [41] F.2 = s9 := ⟨_, rfl⟩
    rw [h_s9]
    have HX : Hid (∀ W, Env W g V L F.2 → Calls Tryd.prog 86 #[rp g, .string ⟨#[41]⟩] W fun e w' => e = .returned (.tuple #[]) ∧ Env w' g V L s9 ∧ Fr (fun i => i = g) W w') := fun W hW => by
      have := wants_any W g V L F.2 [41] hW
      rw [h_s9] at this
      exact this
    have HC : Hid (∀ W s, Env W g V L s → Calls Tryd.prog 155 #[rp g] W fun e w' => e = .returned (opV ((sde L) s).1) ∧ Env w' g V L ((sde L) s).2 ∧ Fr (fun i => i = g) W w') := fun W s hW => side_any W g V L s hW
    have hg1 := HG.out s
    obtain ⟨c, hc⟩ : ∃ c, ((sde L) s).1 = c := ⟨_, rfl⟩
    obtain ⟨s1, hs1⟩ : ∃ s1, ((sde L) s).2 = s1 := ⟨_, rfl⟩
    have HC1 : Hid (∀ W, Env W g V L s → Calls Tryd.prog 155 #[rp g] W fun e w' => e = .returned (opV c) ∧ Env w' g V L s1 ∧ Fr (fun i => i = g) W w') := fun W hW => by
      have := HC.out W s hW
      rw [hc, hs1] at this
      exact this
    rw [hs1] at hg1
    rw [hc, hs1] at hF
    have HF0 : Hid (sep L [44] (sde L) L.length s1 [c] = F) := hF
    have HG1 : Hid (s.i ≤ s1.i ∧ s1.o = s.o) := hg1
    clear a1 a2 a3 a4 hF hc hs1 h hg1 h_s9 hb_HT
    obtain ⟨ck, cvk, cvi, cvt, cva, cfd⟩ := c
    go_enter Tryd.func154, Tryd.ntmps154
    go_wp2_with (first
      | (go_at_call 42; refine (HT.out _ HE0.out).mono ?_; rintro e w1 ⟨rfl, he1, hf1⟩; have HE1 : Hid (Env w1 g V L s ∧ Fr (fun i => i = g) w w1) := ⟨he1, hf1⟩; clear he1 hf1)
      | (go_at_call 155; refine (HC1.out _ HE1.out.1).mono ?_; rintro e w2 ⟨rfl, he2, hf2⟩; have HE2 : Hid (Env w2 g V L s1 ∧ Fr (fun i => i = g) w w2) := ⟨he2, HE1.out.2.trans hf2⟩; clear he2 hf2))
    have HR1 : Hid (Row (w2.alloc (.cells (opC ⟨ck, cvk, cvi, cvt, cva, cfd⟩).toArray 104)) (fun i => w.heap.size ≤ i) 104 6 (.slice (some ⟨w2.heap.size, 0, none⟩) 1 1) ([(⟨ck, cvk, cvi, cvt, cva, cfd⟩ : Opd)].map encO)) := Row.new HE2.out.2.size rfl (holdsO _ _ (⟨ck, cvk, cvi, cvt, cva, cfd⟩ : Opd))
    have HE3 : Hid (Env (w2.alloc (.cells (opC ⟨ck, cvk, cvi, cvt, cva, cfd⟩).toArray 104)) g V L s1 ∧ Fr (fun i => i = g) w (w2.alloc (.cells (opC ⟨ck, cvk, cvi, cvt, cva, cfd⟩).toArray 104))) := ⟨HE2.out.1.alloc _, HE2.out.2.alloc _⟩
    clear HE1 HE2
    go_loopg [7] L.length (fun k v wr => ∃ (acc : List Opd) (st : St), (Env wr g V L st ∧ Fr (fun i => i = g) w wr) ∧ Row wr (fun i => w.heap.size ≤ i) 104 6 v (acc.map encO) ∧ sep L [44] (sde L) k st acc = F ∧ acc.length + k ≤ 701 ∧ L.length ≤ st.i + k)
    case atStart => exact ⟨_, s1, HE3.out, HR1.out, HF0.out, by have := HLEN.out; simp; omega, by omega⟩
    case round =>
      obtain ⟨acc, st, hen, hrow, hsp, hk1, hk2⟩ := hrel
      obtain ⟨p, cap, rfl⟩ := hrow.shape
      rw [List.length_map] at hrow ⊢
      obtain ⟨n, hn⟩ : ∃ n, acc.length = n := ⟨_, rfl⟩
      have HNN : Hid (acc.length = n) := hn
      rw [hn] at hrow hk1 ⊢
      have HLr : Hid (Env wr g V L st ∧ Fr (fun i => i = g) w wr) := hen
      have HRW : Hid (Row wr (fun i => w.heap.size ≤ i) 104 6 (.slice p n cap) (acc.map encO)) := hrow
      have HU := takes_any wr g V L st [44] hen.1
      have HK : Hid (n + gk ≤ 701 ∧ L.length ≤ st.i + gk) := ⟨hk1, hk2⟩
      unfold tks at HU
      clear hen hrow hn hk1 HE3 HR1 HF0
      cases hm : see L [44] st
      · rw [hm] at HU
        simp only [Bool.false_eq_true, if_false] at HU
        have HU2 : Hid (Calls Tryd.prog 42 #[rp g, .string ⟨#[44]⟩] wr fun e w' => e = .returned (.bool false) ∧ Env w' g V L st ∧ Fr (fun i => i = g) wr w') := HU
        rw [sep_stop hm] at hsp
        subst hsp
        clear HU hm hk2
        go_wp2_with (first
          | (go_at_call 42; refine HU2.out.mono ?_; rintro e w3 ⟨rfl, he3, hf3⟩; have HE4 : Hid (Env w3 g V L st ∧ Fr (fun i => i = g) w w3) := ⟨he3, HLr.out.2.trans hf3⟩; have HRW3 : Hid (Row w3 (fun i => w.heap.size ≤ i) 104 6 (.slice p n cap) (acc.map encO)) := HRW.out.fr hf3 HGW.out; clear he3 hf3)
          | (go_at_call 86; refine (HX.out _ HE4.out.1).mono ?_; rintro e w4 ⟨rfl, he4, hf4⟩; have HE5 : Hid (Env w4 g V L s9 ∧ Fr (fun i => i = g) w w4) := ⟨he4, HE4.out.2.trans hf4⟩; have HRW4 : Hid (Row w4 (fun i => w.heap.size ≤ i) 104 6 (.slice p n cap) (acc.map encO)) := HRW3.out.fr hf4 HGW.out; clear he4 hf4))
        go_ret
        refine ⟨p, cap, ?_, ?_, HE5.out.1, HE5.out.2⟩
        · simp only [HNN.out]; rfl
        · simp only [HNN.out]; exact HRW4.out.holds
      · rw [hm] at HU
        simp only [if_true] at HU
        have HU2 : Hid (Calls Tryd.prog 42 #[rp g, .string ⟨#[44]⟩] wr fun e w' => e = .returned (.bool true) ∧ Env w' g V L st.adv ∧ Fr (fun i => i = g) wr w') := HU
        have hlt := (see_lt hm).2
        obtain ⟨k2, rfl⟩ : ∃ k2, gk = k2 + 1 := ⟨gk - 1, by omega⟩
        rw [sep_step hm] at hsp
        have hg2 := HG.out st.adv
        obtain ⟨d, hd⟩ : ∃ d, ((sde L) st.adv).1 = d := ⟨_, rfl⟩
        obtain ⟨s2, hs2⟩ : ∃ s2, ((sde L) st.adv).2 = s2 := ⟨_, rfl⟩
        rw [hd, hs2] at hsp
        rw [hs2] at hg2
        have HC2 : Hid (∀ W, Env W g V L st.adv → Calls Tryd.prog 155 #[rp g] W fun e w' => e = .returned (opV d) ∧ Env w' g V L s2 ∧ Fr (fun i => i = g) W w') := fun W hW => by
          have := HC.out W st.adv hW
          rw [hd, hs2] at this
          exact this
        have HSP : Hid (sep L [44] (sde L) k2 s2 (acc ++ [d]) = F) := hsp
        have HG2 : Hid (st.i + 1 ≤ s2.i) := hg2.1
        have HLN : Hid ((acc.map encO).length ≤ 800) := by
          have h1 := HNN.out
          have h2 := HK.out
          show (acc.map encO).length ≤ 800
          rw [List.length_map]
          omega
        obtain ⟨dk, dvk, dvi, dvt, dva, dfd⟩ := d
        clear HU hm hd hs2 hsp hg2 hk2 hlt
        go_wp2_with (first
          | (go_at_call 42; refine HU2.out.mono ?_; rintro e w3 ⟨rfl, he3, hf3⟩; have HE4 : Hid (Env w3 g V L st.adv ∧ Fr (fun i => i = g) w w3) := ⟨he3, HLr.out.2.trans hf3⟩; have HRW3 : Hid (Row w3 (fun i => w.heap.size ≤ i) 104 6 (.slice p n cap) (acc.map encO)) := HRW.out.fr hf3 HGW.out; clear he3 hf3)
          | (go_at_call 155; refine (HC2.out _ HE4.out.1).mono ?_; rintro e w4 ⟨rfl, he4, hf4⟩; have HE5 : Hid (Env w4 g V L s2 ∧ Fr (fun i => i = g) w w4) := ⟨he4, HE4.out.2.trans hf4⟩; have HRW4 : Hid (Row w4 (fun i => w.heap.size ≤ i) 104 6 (.slice p n cap) (acc.map encO)) := HRW3.out.fr hf4 HGW.out; clear he4 hf4)
          | (at_builtin; refine wp_app (by rfl) _ _ 44 (by rfl) 104 i0 zO 6 72 Tryd.underlying44 HI.out.1 HI.out.2.1 HI.out.2.2.1 HI.out.2.2.2 rfl (by omega) w.heap.size (.slice p n cap) (acc.map encO) (by rfl) (HRW4.out.alloc _) (Nat.le_trans HE5.out.2.size (by simp)) (encO (⟨dk, dvk, dvi, dvt, dva, dfd⟩ : Opd)) (opC ⟨dk, dvk, dvi, dvt, dva, dfd⟩) ⟨w4.heap.size, 0, none⟩ (by rfl) (by rfl) (World.news_of_block (heap_alloc_new _ _)) (by rfl) (holdsO _ _ (⟨dk, dvk, dvi, dvt, dva, dfd⟩ : Opd)) HLN.out (by omega) ?_; intro v' w5 hrw hgb hown; have HRW5 : Hid (Row w5 (fun i => w.heap.size ≤ i) 104 6 v' (acc.map encO ++ [encO (⟨dk, dvk, dvi, dvt, dva, dfd⟩ : Opd)])) := hrw; have HE6 : Hid (Env w5 g V L s2 ∧ Fr (fun i => i = g) w w5) := ⟨(HE5.out.1.alloc _).grown hgb hown HGW.out, (HE5.out.2.alloc _).grown hgb (fun k hk => .inr (hown k hk))⟩; clear hrw hgb hown))
        go_roundg k2
        case measure => omega
        case rel =>
          have hk := HK.out
          have hn := HNN.out
          have hg2 := HG2.out
          refine ⟨acc ++ [(⟨dk, dvk, dvi, dvt, dva, dfd⟩ : Opd)], s2, HE6.out, ?_, HSP.out, by simp; omega, by omega⟩
          rw [List.map_append]
          exact HRW5.out
  · simp only [if_true]
    have HT : Hid (∀ W, Env W g V L s → Calls Tryd.prog 42 #[rp g, .string ⟨#[41]⟩] W fun e w' => e = .returned (.bool true) ∧ Env w' g V L s.adv ∧ Fr (fun i => i = g) W w') := fun W hW => by
      have := takes_any W g V L s [41] hW
      unfold tks at this
      rw [hb_HT] at this
      exact this
    clear h hb_HT a1 a2 a3 a4
    go_enter Tryd.func154, Tryd.ntmps154
    go_wp2_with (go_at_call 42; refine (HT.out _ HE0.out).mono ?_; rintro e w1 ⟨rfl, he1, hf1⟩)
    go_ret
    exact ⟨none, 0, rfl, (Row.nil _ _ _ _).holds, he1, hf1⟩
end Go.Proofs.YtggfaglfchepfaaDoor
