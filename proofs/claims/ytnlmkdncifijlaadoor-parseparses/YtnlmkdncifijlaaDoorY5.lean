/-
  The reference reads a condition.
-/
import Derived.Test.YtnlmkdncifijlaaDoorY4
import Derived.Deep.LoopGhost
namespace Go.Proofs.YtnlmkdncifijlaaDoor.Ref
open Go.ChangeShapes Go.WideShapes Go.ChangeAt Go.RowKit Go.Maps
set_option linter.unusedVariables false
set_option linter.unusedSimpArgs false
set_option maxRecDepth 20000
theorem Row.newS {w : World} {S : Nat → Prop} {e z : Nat} {d : List Dat} {us : List Value} (hb : S w.heap.size) (hz : us.length = z) (hd : HoldsL w S d us) : Row (w.alloc (.cells us.toArray e)) S e z (.slice (some ⟨w.heap.size, 0, none⟩) 1 1) [d] := by
  refine ⟨us, ⟨by simpa using hz, .inr ⟨w.heap.size, 1, us.toArray, rfl, Nat.zero_le _, heap_alloc_new _ _, Nat.le_refl _, by decide, by simpa using hz, ?_⟩⟩, fun i hi => ?_, ?_⟩
  · rw [← hz]; simp
  · simp [Value.ownBlock] at hi
    subst hi
    exact hb
  · rw [show [d].flatten = d by simp]
    refine hd.mono fun i hi hl => ⟨⟨hi, ?_⟩, Below.heap_alloc _ _ _ hl⟩
    simp [Value.ownBlock]
    omega
/-- An append of one element to a row of the call's own, in blocks of S. -/
theorem wp_appS {P : Program} {ops : Array Oper} {rest : List Oper} {o : Oper} {a : Act} {w : World} {Q : Exit → Act → World → Prop} (hgd : o.guard = none) (s x : Operand) (t : TypeId)
    (ho : o.op = .call { callee := .builtin .append, args := #[s, x], argTypes := #[t, t] }) (e : TypeId) (i : TypeInfo) (zv : Value) (z bytes : Nat) (ht : P.underlying t = some (.slice e)) (hi : P.info? e = some i) (hz : i.zero = some zv)
    (hsize : i.size = z) (hby : i.bytes = bytes) (hzs : zv.cells.size = z) (hsz : 0 < z) (S : Nat → Prop) (v : Value) (l : List (List Dat)) (hs : a.eval s = v) (hrow : Row w S e z v l) (hb : S w.heap.size) (d : List Dat) (us : List Value) (ad : Addr)
    (hx : a.eval x = .slice (some ad) 1 1) (hl : us.length = 1 * z) (hnews : ∀ j u, us[j]? = some u → w.cell? (ad.add j) = some u) (h1 : us.all (·.oneCell') = true) (hd : HoldsL w (fun i => S i ∧ v.ownBlock ≠ some i) d us) (h700 : l.length ≤ 800) (hbb : bytes ≤ 100000)
    (h : ∀ v' w', Row w' S e z v' (l ++ [d]) → w.grownBy w' v.ownBlock → (∀ k, v.ownBlock = some k → S k) → wpList P ops Q rest (a.put o.dst v') w') : wpList P ops Q (o :: rest) a w := by
  obtain ⟨xs, r1, r2, r3⟩ := hrow
  refine wpList_append_own_at _ hgd s x t ho 0 e i zv z bytes ht hi hz hsize hby hzs hsz v l.length xs hs r1 ad 1 1 us hx hl hnews (List.all_eq_true.1 h1) (by unfold maxLen; omega) ?_ (Nat.zero_le _) ?_
  · have : (l.length + 1) * bytes ≤ 801 * 100000 := Nat.mul_le_mul (by omega) hbb
    omega
  · intro v' w' q1 q2 q3 q4
    refine h v' w' ?_ q2 r2
    refine (Row.append r3 hd (by simpa using q1) q2 q4 r2).mono fun i hi _ => ⟨?_, rfl⟩
    rcases hi with c | c
    · exact c
    · show S i; rw [c]; exact hb
theorem Loc.grown {w0 w w' : World} {g R : Nat} {V : Value} {L : List Tk} {s : St} {cs : List Value} {T : TypeId} {row : Option Nat} (h : Loc w0 g V L w s R cs T) (hg : w.grownBy w' row) (hr : ∀ k, row = some k → R < k) : Loc w0 g V L w' s R cs T := by
  have hlo := h.lo
  have hhi := h.hi
  have hb : ∀ k, k ≤ R → k < w.heap.size → w'.heap[k]? = w.heap[k]? := fun k hk hl => hg.block k hl (fun e => by have := hr k e.symm; omega)
  have hgl := blk_lt h.env.blk
  exact ⟨h.env.on hg.size (fun k hk => hb k (by omega) (by omega)) ((hb g (by omega) hgl).trans h.env.blk) h.env.pos, h.fr.grown hg (fun k hk => .inr (by have := hr k hk; omega)), hlo, hhi, (hb R (Nat.le_refl _) (blk_lt h.blk)).trans h.blk⟩
theorem Lo2.grown {w0 w w' : World} {g R M : Nat} {V : Value} {L : List Tk} {s : St} {cs ds : List Value} {T U : TypeId} {row : Option Nat} (h : Lo2 w0 g V L w s R cs T M ds U) (hg : w.grownBy w' row) (hr : ∀ k, row = some k → R < k ∧ k ≠ M) : Lo2 w0 g V L w' s R cs T M ds U :=
  ⟨h.loc.grown hg fun k hk => (hr k hk).1, h.lo2, h.ne, (hg.block M (blk_lt h.blk2) fun e => (hr M e.symm).2 rfl).trans h.blk2⟩
set_option maxHeartbeats 8000000 in
theorem joined_and (g : Nat) (V : Value) (L : List Tk) (P : St → Cn × St) (ok : Nat) (d : Int) (hP : GoodA ok P)
    (hpart : ∀ W s, Env W g V L s → s.o = ok → Calls Tryd.prog 87 #[rp g, .int .i64 2, .int .i64 d] W (CPost W g V L (P s).1 (P s).2)) (w : World) (s : St) (h : Env w g V L s) (ho : s.o = ok) :
    Calls Tryd.prog 87 #[rp g, .int .i64 1, .int .i64 d] w (CPost w g V L (jnd L 1 [97, 110, 100] P s).1 (jnd L 1 [97, 110, 100] P s).2) := by
  have HP : Hid (∀ W s, Env W g V L s → s.o = ok → Calls Tryd.prog 87 #[rp g, .int .i64 2, .int .i64 d] W (CPost W g V L (P s).1 (P s).2)) := hpart
  have HG : Hid (GoodA ok P) := hP
  have HO : Hid (s.o = ok) := ho
  have HL0 : Hid (Loc w g V L (w.alloc (.cells cm0.toArray 52)) s w.heap.size cm0 52) := Loc.start h cm0 _
  obtain ⟨i0, a1, a2, a3, a4⟩ := info_parts infoC
  have HI : Hid (Tryd.prog.info? 52 = some i0 ∧ i0.zero = some zC ∧ i0.size = 14 ∧ i0.bytes = 176) := ⟨a1, a2, a3, a4⟩
  have HLEN : Hid (L.length ≤ 700) := h.len
  unfold jnd
  obtain ⟨F, hF⟩ : ∃ F, sep L [97, 110, 100] P L.length (P s).2 [(P s).1] = F := ⟨_, rfl⟩
  rw [hF]
  obtain ⟨c, hc⟩ : ∃ c, (P s).1 = c := ⟨_, rfl⟩
  obtain ⟨s1, hs1⟩ : ∃ s1, (P s).2 = s1 := ⟨_, rfl⟩
  have hg1 := hP s ho
  have HP1 := hpart _ s HL0.out.env ho
  rw [hc, hs1] at HP1
  rw [hs1] at hg1
  rw [hc, hs1] at hF
  have HP2 : Hid (Calls Tryd.prog 87 #[rp g, .int .i64 2, .int .i64 d] (w.alloc (.cells cm0.toArray 52)) (CPost (w.alloc (.cells cm0.toArray 52)) g V L c s1)) := HP1
  have HF0 : Hid (sep L [97, 110, 100] P L.length s1 [c] = F) := hF
  have HGW : Hid (g < w.heap.size) := blk_lt h.blk
  have HG1 : Hid (s.i ≤ s1.i ∧ s1.o = s.o) := hg1
  clear hpart hP ho a1 a2 a3 a4 hF hc hs1 HP1 h hg1
  obtain ⟨ck, csb, cl, cr⟩ := c
  obtain ⟨n1, hn1⟩ : ∃ n1, csb.length = n1 := ⟨_, rfl⟩
  unfold CPost at HP2
  simp only [hn1] at HP2
  have HN1 : Hid (csb.length = n1) := hn1
  clear hn1
  go_enter Tryd.func87, Tryd.ntmps87
  go_wp2_with (first
    | (go_at_call 87; refine HP2.out.mono ?_; rintro e w1 ⟨p1, cap1, rfl, hh1, he1, hf1⟩; have HH1 : Hid (Holds w1 (fun i => w.heap.size + 1 ≤ i) (.row 52 14 csb) (.slice p1 n1 cap1)) := hh1.low (by { simp }); have HL1 : Hid (Lo2 w g V L (w1.alloc (.cells (cnC ck (.slice p1 n1 cap1) cl cr).toArray 52)) s1 w.heap.size cm0 52 w1.heap.size (cnC ck (.slice p1 n1 cap1) cl cr) 52) := (HL0.out.call he1 hf1).two _ _; have HS1 : Hid (w.heap.size < w1.heap.size) := blk_lt (HL0.out.call he1 hf1).blk; clear hh1 he1 hf1)
    | ((with_reducible show wpList _ _ _ (Oper.mk _ (.load _ _) _ _ _ _ :: _) _ _); refine wp_ld (by rfl) 52 _ (by rfl) w1.heap.size (cnC ck (.slice p1 n1 cap1) cl cr) 52 _ (by rfl) (heap_alloc_new _ _) Tryd.underlying52 rfl (by kernel_rfl) ?_))
  have HR1 : Hid (Row ((w1.alloc (.cells (cnC ck (.slice p1 n1 cap1) cl cr).toArray 52)).alloc (.cells (cnC ck (.slice p1 n1 cap1) cl cr).toArray 52)) (fun i => w1.heap.size + 1 ≤ i ∨ (w.heap.size + 1 ≤ i ∧ i < w1.heap.size)) 52 14 (.slice (some ⟨w1.heap.size + 1, 0, none⟩) 1 1) ([(⟨ck, csb, cl, cr⟩ : Cn)].map encC)) := by
    have h1 : HoldsL (w1.alloc (.cells (cnC ck (.slice p1 n1 cap1) cl cr).toArray 52)) (fun i => w.heap.size + 1 ≤ i ∧ i < w1.heap.size) (encC ⟨ck, csb, cl, cr⟩) (cnC ck (.slice p1 n1 cap1) cl cr) := by
      refine holdsC (c := ⟨ck, csb, cl, cr⟩) ?_
      exact HH1.out.mono fun i hi hl => ⟨⟨hi, hl⟩, Below.heap_alloc _ _ _ hl⟩
    have e3 : (w1.alloc (.cells (cnC ck (.slice p1 n1 cap1) cl cr).toArray 52)).heap.size = w1.heap.size + 1 := by simp
    have h2 := Row.newS (w := (w1.alloc (.cells (cnC ck (.slice p1 n1 cap1) cl cr).toArray 52))) (S := fun i => w1.heap.size + 1 ≤ i ∨ (w.heap.size + 1 ≤ i ∧ i < w1.heap.size)) (e := 52) (z := 14) (.inl (by rw [e3]; exact Nat.le_refl _)) rfl (h1.mono fun i hi _ => ⟨.inr hi, rfl⟩)
    rw [e3] at h2
    exact h2
  have HL2 : Hid (Lo2 w g V L ((w1.alloc (.cells (cnC ck (.slice p1 n1 cap1) cl cr).toArray 52)).alloc (.cells (cnC ck (.slice p1 n1 cap1) cl cr).toArray 52)) s1 w.heap.size cm0 52 w1.heap.size (cnC ck (.slice p1 n1 cap1) cl cr) 52) := HL1.out.alloc _
  obtain ⟨R, hR⟩ : ∃ R, w.heap.size = R := ⟨_, rfl⟩
  have HRR : Hid (w.heap.size = R) := hR
  obtain ⟨M, hM⟩ : ∃ M, w1.heap.size = M := ⟨_, rfl⟩
  have HMM : Hid (R < M ∧ g < R) := ⟨by rw [← hM, ← hR]; exact HS1.out, by rw [← hR]; exact HGW.out⟩
  obtain ⟨W, hW⟩ : ∃ W, ((w1.alloc (.cells (cnC ck (.slice p1 n1 cap1) cl cr).toArray 52)).alloc (.cells (cnC ck (.slice p1 n1 cap1) cl cr).toArray 52)) = W := ⟨_, rfl⟩
  rw [hW] at HR1 HL2 ⊢
  rw [hR, hM] at HR1 HL2
  rw [hR, hM]
  clear HL1 HL0 HH1 hR hM HS1 HGW hW
  go_loopg [14] L.length (fun k v wr => ∃ (acc : List Cn) (st : St) (ek : Int) (ev : Value) (el er : Opd), Lo2 w g V L wr st R cm0 52 M (cnC ek ev el er) 52 ∧ Row wr (fun i => M + 1 ≤ i ∨ (R + 1 ≤ i ∧ i < M)) 52 14 v (acc.map encC) ∧ sep L [97, 110, 100] P k st acc = F ∧ acc.length + k ≤ 701 ∧ L.length ≤ st.i + k ∧ st.o = ok ∧ acc ≠ [])
  case atStart => exact ⟨_, s1, _, _, _, _, HL2.out, HR1.out, HF0.out, by have := HLEN.out; simp; omega, by omega, by rw [HG1.out.2]; exact HO.out, by simp⟩
  case round =>
    obtain ⟨acc, st, ek, ev, el, er, hlo, hrow, hsp, hk1, hk2, hso, hne⟩ := hrel
    obtain ⟨p, cap, rfl⟩ := hrow.shape
    rw [List.length_map] at hrow ⊢
    obtain ⟨n, hn⟩ : ∃ n, acc.length = n := ⟨_, rfl⟩
    have HNN : Hid (acc.length = n) := hn
    rw [hn] at hrow hk1 ⊢
    have HLr : Hid (Lo2 w g V L wr st R cm0 52 M (cnC ek ev el er) 52) := hlo
    have HRW : Hid (Row wr (fun i => M + 1 ≤ i ∨ (R + 1 ≤ i ∧ i < M)) 52 14 (.slice p n cap) (acc.map encC)) := hrow
    have HT := is_any wr g V L st 1 [97, 110, 100] (.inl ⟨rfl, by kernel_rfl⟩) hlo.env
    have HK : Hid (n + gk ≤ 701 ∧ L.length ≤ st.i + gk ∧ st.o = ok ∧ acc ≠ []) := ⟨hk1, hk2, hso, hne⟩
    unfold tks at HT
    clear hlo hrow hn hk1 hne HL2 HR1 HF0
    cases hm : see L [97, 110, 100] st
    · rw [hm] at HT
      simp only [Bool.false_eq_true, if_false] at HT
      have HT2 : Hid (Calls Tryd.prog 20 #[rp g, .int .i64 1, .string ⟨#[97, 110, 100]⟩] wr fun e w' => e = .returned (.bool false) ∧ Env w' g V L st ∧ Fr (fun i => i = g) wr w') := HT
      rw [sep_stop hm] at hsp
      subst hsp
      clear HT hm hk2 hso
      by_cases h1 : n = 1
      · have hb1 : ((n : Int) == 1) = true := by simp; omega
        obtain ⟨d', hd⟩ : ∃ d', acc = [d'] := List.length_eq_one_iff.1 (HNN.out.trans h1)
        subst hd
        subst h1
        have hw : ∀ w2, Fr (fun i => i = g) wr w2 → ∃ gb cap' p2 cap2, (Value.slice p 1 cap) = .slice (some ⟨gb, 0, none⟩) 1 cap' ∧ w2.rangeAt gb 0 (cnC d'.k (.slice p2 d'.sb.length cap2) d'.l d'.r) ∧ Holds w2 (fun i => R + 1 ≤ i) (.row 52 14 d'.sb) (.slice p2 d'.sb.length cap2) := fun w2 hf => by
          have hmm := HMM.out
          have hr : Row w2 (fun i => R + 1 ≤ i) 52 14 (.slice p 1 cap) ([d'].map encC) := HRW.out.mono fun i hi hl => ⟨by rcases hi with c | c <;> (show R + 1 ≤ i; omega), hf.block i hl (by show ¬ i = g; rcases hi with c | c <;> omega)⟩
          obtain ⟨gb, cap', xs, e1, e2, e3⟩ := Row.only hr
          obtain ⟨p2, cap2, rfl, e4⟩ := encC_cells e3
          exact ⟨gb, cap', p2, cap2, e1, e2, e4⟩
        have HW : Hid (∀ w2, Fr (fun i => i = g) wr w2 → ∃ gb cap' p2 cap2, (Value.slice p 1 cap) = .slice (some ⟨gb, 0, none⟩) 1 cap' ∧ w2.rangeAt gb 0 (cnC d'.k (.slice p2 d'.sb.length cap2) d'.l d'.r) ∧ Holds w2 (fun i => R + 1 ≤ i) (.row 52 14 d'.sb) (.slice p2 d'.sb.length cap2)) := hw
        obtain ⟨dk, dsb, dl, dr⟩ := d'
        obtain ⟨m1, hm1⟩ : ∃ m1, dsb.length = m1 := ⟨_, rfl⟩
        simp only [hm1] at HW
        have HM1 : Hid (dsb.length = m1) := hm1
        clear hw hm1
        go_wp2_with (first
          | (go_at_call 20; refine HT2.out.mono ?_; rintro e w2 ⟨rfl, he2, hf2⟩; obtain ⟨gb, cap', p2, cap2, hee, hrg, hho⟩ := HW.out w2 hf2; simp only [Value.slice.injEq, true_and] at hee; obtain ⟨rfl, rfl⟩ := hee; have HRG : Hid (w2.rangeAt gb 0 (cnC dk (.slice p2 m1 cap2) dl dr)) := hrg; have HHO : Hid (Holds w2 (fun i => R + 1 ≤ i) (.row 52 14 dsb) (.slice p2 m1 cap2)) := hho; have HL3 : Hid (Loc w g V L w2 st R cm0 52) := (HLr.out.call he2 hf2).loc; clear he2 hf2 hrg hho)
          | ((with_reducible show wpList _ _ _ (Oper.mk _ (.load _ _) _ _ _ _ :: _) _ _); refine wpList_load_mid (by rfl) 52 _ (by rfl) gb 0 (by rfl) (cnC dk (.slice p2 m1 cap2) dl dr) _ HRG.out Tryd.underlying52 rfl (by kernel_rfl) ?_)
          | ((with_reducible show wpList _ _ _ (Oper.mk _ (.store _ _ _) _ _ _ _ :: _) _ _); refine wp_st (by rfl) 52 _ _ (by rfl) R 0 cm0 52 (cnV dk (.slice p2 m1 cap2) dl dr) (cnC dk (.slice p2 m1 cap2) dl dr) (by rfl) (by rfl) (by rfl) HL3.out.blk (Nat.le_of_ble_eq_true rfl) (by kernel_rfl) (by rfl) ?_; intro w9 hw_w9 hf_w9; have HL9 : Hid (Loc w g V L w9 st R (cnC dk (.slice p2 m1 cap2) dl dr) 52) := HL3.out.st hw_w9 hf_w9; have HH9 : Hid (Holds w9 (fun i => R + 1 ≤ i) (.row 52 14 dsb) (.slice p2 m1 cap2)) := HHO.out.fr hf_w9 (by { omega }); clear hw_w9 hf_w9))
        refine ret_loc R _ _ _ HL9.out.blk rfl rfl (by rfl) Tryd.underlying52 rfl (by kernel_rfl) ?_
        have e1 : one 1 [(⟨dk, dsb, dl, dr⟩ : Cn)] = ⟨dk, dsb, dl, dr⟩ := rfl
        rw [e1]
        refine ⟨p2, cap2, ?_, ?_, HL9.out.env, HL9.out.fr⟩
        · simp only [HM1.out]
        · simp only [HM1.out]
          exact HH9.out.low (by have := HRR.out; omega)
      · have hb1 : ((n : Int) == 1) = false := by simp; omega
        have H1 : Hid (n ≠ 1) := h1
        clear h1
        go_wp2_with (first
          | (go_at_call 20; refine HT2.out.mono ?_; rintro e w2 ⟨rfl, he2, hf2⟩; have HRW2 : Hid (Row w2 (fun i => R + 1 ≤ i) 52 14 (.slice p n cap) (acc.map encC)) := HRW.out.mono (fun i hi hl => ⟨by { have := HMM.out; rcases hi with c | c <;> (show R + 1 ≤ i; omega) }, hf2.block i hl (by { show ¬ i = g; have := HMM.out; rcases hi with c | c <;> omega })⟩); have HL3 : Hid (Loc w g V L w2 st R cm0 52) := (HLr.out.call he2 hf2).loc; clear he2 hf2)
          | ((with_reducible show wpList _ _ _ (Oper.mk _ (.store _ _ _) _ _ _ _ :: _) _ _); refine wp_st (by rfl) 52 _ _ (by rfl) R 0 cm0 52 (cnV 1 (.slice p n cap) opd0 opd0) (cnC 1 (.slice p n cap) opd0 opd0) (by rfl) (by rfl) (by rfl) HL3.out.blk (Nat.le_of_ble_eq_true rfl) (by kernel_rfl) (by rfl) ?_; intro w9 hw_w9 hf_w9; have HL9 : Hid (Loc w g V L w9 st R (cnC 1 (.slice p n cap) opd0 opd0) 52) := HL3.out.st hw_w9 hf_w9; have HH9 : Hid (Holds w9 (fun i => R + 1 ≤ i) (.row 52 14 (acc.map encC)) (.slice p n cap)) := HRW2.out.holds.fr hf_w9 (by { omega }); clear hw_w9 hf_w9))
        refine ret_loc R _ _ _ HL9.out.blk rfl rfl (by rfl) Tryd.underlying52 rfl (by kernel_rfl) ?_
        have e1 : one 1 acc = ⟨1, acc.map encC, opd0, opd0⟩ := by
          have hh := HNN.out
          have hq := H1.out
          match acc, hh with
          | [], _ => rfl
          | [c], hh => exact absurd hh.symm hq
          | c :: d :: r, _ => rfl
        rw [e1]
        refine ⟨p, cap, ?_, ?_, HL9.out.env, HL9.out.fr⟩
        · simp only [List.length_map, HNN.out]
        · simp only [List.length_map, HNN.out]
          exact HH9.out.low (by have := HRR.out; omega)
    · rw [hm] at HT
      simp only [if_true] at HT
      have HT2 : Hid (Calls Tryd.prog 20 #[rp g, .int .i64 1, .string ⟨#[97, 110, 100]⟩] wr fun e w' => e = .returned (.bool true) ∧ Env w' g V L st.adv ∧ Fr (fun i => i = g) wr w') := HT
      have hlt := (see_lt hm).2
      obtain ⟨k2, rfl⟩ : ∃ k2, gk = k2 + 1 := ⟨gk - 1, by omega⟩
      rw [sep_step hm] at hsp
      have hg2 := HG.out st.adv hso
      obtain ⟨d', hd⟩ : ∃ d', (P st.adv).1 = d' := ⟨_, rfl⟩
      obtain ⟨s2, hs2⟩ : ∃ s2, (P st.adv).2 = s2 := ⟨_, rfl⟩
      rw [hd, hs2] at hsp
      rw [hs2] at hg2
      have HP4 : Hid (∀ W, Env W g V L st.adv → Calls Tryd.prog 87 #[rp g, .int .i64 2, .int .i64 d] W (CPost W g V L d' s2)) := fun W hW => by
        have := HP.out W st.adv hW hso
        rw [hd, hs2] at this
        exact this
      have HSP : Hid (sep L [97, 110, 100] P k2 s2 (acc ++ [d']) = F) := hsp
      have HG2 : Hid (st.i + 1 ≤ s2.i ∧ s2.o = st.o) := hg2
      obtain ⟨dk, dsb, dl, dr⟩ := d'
      obtain ⟨m1, hm1⟩ : ∃ m1, dsb.length = m1 := ⟨_, rfl⟩
      have HLN : Hid ((acc.map encC).length ≤ 800) := by
        have h1 := HNN.out
        have h2 := HK.out
        show (acc.map encC).length ≤ 800
        rw [List.length_map]
        omega
      unfold CPost at HP4
      simp only [hm1] at HP4
      clear HT hm hd hs2 hsp hg2 hm1 hk2 hso hlt
      go_wp2_with (first
        | (go_at_call 87; refine (HP4.out _ HL3.out.env).mono ?_; rintro e w3 ⟨p3, cap3, rfl, hh3, he3, hf3⟩; have HRW3 : Hid (Row w3 (fun i => M + 1 ≤ i ∨ (R + 1 ≤ i ∧ i < M)) 52 14 (.slice p n cap) (acc.map encC)) := HRW2.out.mono (fun i hi hl => ⟨hi, hf3.block i hl (by { show ¬ i = g; have := HMM.out; rcases hi with c | c <;> omega })⟩); have HH3 : Hid (Holds w3 (fun i => M + 1 ≤ i ∧ (Value.slice p n cap).ownBlock ≠ some i) (.row 52 14 dsb) (.slice p3 m1 cap3)) := hh3.mono (fun i hi hl => ⟨⟨by { have := blk_lt HL3.out.blk2; have h9 : w2.heap.size ≤ i := hi; show M + 1 ≤ i; omega }, fun h8 => by { have := HRW2.out.own_lt h8; have h9 : w2.heap.size ≤ i := hi; omega }⟩, rfl⟩); have HL4 : Hid (Lo2 w g V L w3 s2 R cm0 52 M (cnC ek ev el er) 52) := HL3.out.call he3 hf3; clear hh3 he3 hf3)
        | (go_at_call 20; refine HT2.out.mono ?_; rintro e w2 ⟨rfl, he2, hf2⟩; have HRW2 : Hid (Row w2 (fun i => M + 1 ≤ i ∨ (R + 1 ≤ i ∧ i < M)) 52 14 (.slice p n cap) (acc.map encC)) := HRW.out.mono (fun i hi hl => ⟨hi, hf2.block i hl (by { show ¬ i = g; have := HMM.out; rcases hi with c | c <;> omega })⟩); have HL3 : Hid (Lo2 w g V L w2 st.adv R cm0 52 M (cnC ek ev el er) 52) := HLr.out.call he2 hf2; clear he2 hf2)
        | ((with_reducible show wpList _ _ _ (Oper.mk _ (.store _ _ _) _ _ _ _ :: _) _ _); refine wp_st (by rfl) 52 _ _ (by rfl) M 0 (cnC ek ev el er) 52 (cnV dk (.slice p3 m1 cap3) dl dr) (cnC dk (.slice p3 m1 cap3) dl dr) (by rfl) (by rfl) (by rfl) HL4.out.blk2 (Nat.le_of_ble_eq_true rfl) (by kernel_rfl) (by rfl) ?_; intro w4 hw4 hf4; have HL5 : Hid (Lo2 w g V L w4 s2 R cm0 52 M (cnC dk (.slice p3 m1 cap3) dl dr) 52) := HL4.out.st2 hw4 hf4; have HRW4 : Hid (Row w4 (fun i => M + 1 ≤ i ∨ (R + 1 ≤ i ∧ i < M)) 52 14 (.slice p n cap) (acc.map encC)) := HRW3.out.mono (fun i hi hl => ⟨hi, hf4.block i hl (by { show ¬ i = M; rcases hi with c | c <;> omega })⟩); have HH4 : Hid (Holds w4 (fun i => M + 1 ≤ i ∧ (Value.slice p n cap).ownBlock ≠ some i) (.row 52 14 dsb) (.slice p3 m1 cap3)) := HH3.out.mono (fun i hi hl => ⟨hi, hf4.block i hl (by { show ¬ i = M; have := hi.1; omega })⟩); have HBW : Hid (M + 1 ≤ w4.heap.size) := by { have h2 := blk_lt HL5.out.blk2; show M + 1 ≤ _; omega }; clear hw4 hf4)
        | ((with_reducible show wpList _ _ _ (Oper.mk _ (.load _ _) _ _ _ _ :: _) _ _); refine wp_ld (by rfl) 52 _ (by rfl) M (cnC dk (.slice p3 m1 cap3) dl dr) 52 _ (by rfl) HL5.out.blk2 Tryd.underlying52 rfl (by kernel_rfl) ?_)
        | (at_builtin; refine wp_appS (by rfl) _ _ 46 (by rfl) 52 i0 zC 14 176 Tryd.underlying46 HI.out.1 HI.out.2.1 HI.out.2.2.1 HI.out.2.2.2 rfl (by omega) (fun i => M + 1 ≤ i ∨ (R + 1 ≤ i ∧ i < M)) (.slice p n cap) (acc.map encC) (by rfl) (HRW4.out.alloc _) (.inl (Nat.le_trans HBW.out (by simp))) (encC ⟨dk, dsb, dl, dr⟩) (cnC dk (.slice p3 m1 cap3) dl dr) ⟨w4.heap.size, 0, none⟩ (by rfl) (by rfl) (World.news_of_block (heap_alloc_new _ _)) (by rfl) (((holdsC (c := ⟨dk, dsb, dl, dr⟩) HH4.out).mono (fun i hi _ => ⟨⟨.inl hi.1, hi.2⟩, rfl⟩)).on ((Fr.refl _ _).alloc _)) HLN.out (by omega) ?_; intro v' w5 hrw hgb hown; have HRW5 : Hid (Row w5 (fun i => M + 1 ≤ i ∨ (R + 1 ≤ i ∧ i < M)) 52 14 v' (acc.map encC ++ [encC ⟨dk, dsb, dl, dr⟩])) := hrw; have HL6 : Hid (Lo2 w g V L w5 s2 R cm0 52 M (cnC dk (.slice p3 m1 cap3) dl dr) 52) := (HL5.out.alloc _).grown hgb (fun k hk => by { have := hown k hk; have := HMM.out; rcases hown k hk with c | c <;> omega }); clear hrw hgb hown))
      go_roundg k2
      case measure => omega
      case rel =>
        have hk := HK.out
        have hn := HNN.out
        have hg2 := HG2.out
        refine ⟨acc ++ [⟨dk, dsb, dl, dr⟩], s2, dk, _, dl, dr, HL6.out, ?_, HSP.out, by simp; omega, by omega, by omega, by simp⟩
        rw [List.map_append]
        exact HRW5.out
set_option maxHeartbeats 8000000 in
theorem joined_or (g : Nat) (V : Value) (L : List Tk) (P : St → Cn × St) (ok : Nat) (d : Int) (hP : GoodA ok P)
    (hpart : ∀ W s, Env W g V L s → s.o = ok → Calls Tryd.prog 87 #[rp g, .int .i64 1, .int .i64 d] W (CPost W g V L (P s).1 (P s).2)) (w : World) (s : St) (h : Env w g V L s) (ho : s.o = ok) :
    Calls Tryd.prog 87 #[rp g, .int .i64 0, .int .i64 d] w (CPost w g V L (jnd L 2 [111, 114] P s).1 (jnd L 2 [111, 114] P s).2) := by
  have HP : Hid (∀ W s, Env W g V L s → s.o = ok → Calls Tryd.prog 87 #[rp g, .int .i64 1, .int .i64 d] W (CPost W g V L (P s).1 (P s).2)) := hpart
  have HG : Hid (GoodA ok P) := hP
  have HO : Hid (s.o = ok) := ho
  have HL0 : Hid (Loc w g V L (w.alloc (.cells cm0.toArray 52)) s w.heap.size cm0 52) := Loc.start h cm0 _
  obtain ⟨i0, a1, a2, a3, a4⟩ := info_parts infoC
  have HI : Hid (Tryd.prog.info? 52 = some i0 ∧ i0.zero = some zC ∧ i0.size = 14 ∧ i0.bytes = 176) := ⟨a1, a2, a3, a4⟩
  have HLEN : Hid (L.length ≤ 700) := h.len
  unfold jnd
  obtain ⟨F, hF⟩ : ∃ F, sep L [111, 114] P L.length (P s).2 [(P s).1] = F := ⟨_, rfl⟩
  rw [hF]
  obtain ⟨c, hc⟩ : ∃ c, (P s).1 = c := ⟨_, rfl⟩
  obtain ⟨s1, hs1⟩ : ∃ s1, (P s).2 = s1 := ⟨_, rfl⟩
  have hg1 := hP s ho
  have HP1 := hpart _ s HL0.out.env ho
  rw [hc, hs1] at HP1
  rw [hs1] at hg1
  rw [hc, hs1] at hF
  have HP2 : Hid (Calls Tryd.prog 87 #[rp g, .int .i64 1, .int .i64 d] (w.alloc (.cells cm0.toArray 52)) (CPost (w.alloc (.cells cm0.toArray 52)) g V L c s1)) := HP1
  have HF0 : Hid (sep L [111, 114] P L.length s1 [c] = F) := hF
  have HGW : Hid (g < w.heap.size) := blk_lt h.blk
  have HG1 : Hid (s.i ≤ s1.i ∧ s1.o = s.o) := hg1
  clear hpart hP ho a1 a2 a3 a4 hF hc hs1 HP1 h hg1
  obtain ⟨ck, csb, cl, cr⟩ := c
  obtain ⟨n1, hn1⟩ : ∃ n1, csb.length = n1 := ⟨_, rfl⟩
  unfold CPost at HP2
  simp only [hn1] at HP2
  have HN1 : Hid (csb.length = n1) := hn1
  clear hn1
  go_enter Tryd.func87, Tryd.ntmps87
  go_wp2_with (first
    | (go_at_call 87; refine HP2.out.mono ?_; rintro e w1 ⟨p1, cap1, rfl, hh1, he1, hf1⟩; have HH1 : Hid (Holds w1 (fun i => w.heap.size + 1 ≤ i) (.row 52 14 csb) (.slice p1 n1 cap1)) := hh1.low (by { simp }); have HL1 : Hid (Lo2 w g V L (w1.alloc (.cells (cnC ck (.slice p1 n1 cap1) cl cr).toArray 52)) s1 w.heap.size cm0 52 w1.heap.size (cnC ck (.slice p1 n1 cap1) cl cr) 52) := (HL0.out.call he1 hf1).two _ _; have HS1 : Hid (w.heap.size < w1.heap.size) := blk_lt (HL0.out.call he1 hf1).blk; clear hh1 he1 hf1)
    | ((with_reducible show wpList _ _ _ (Oper.mk _ (.load _ _) _ _ _ _ :: _) _ _); refine wp_ld (by rfl) 52 _ (by rfl) w1.heap.size (cnC ck (.slice p1 n1 cap1) cl cr) 52 _ (by rfl) (heap_alloc_new _ _) Tryd.underlying52 rfl (by kernel_rfl) ?_))
  have HR1 : Hid (Row ((w1.alloc (.cells (cnC ck (.slice p1 n1 cap1) cl cr).toArray 52)).alloc (.cells (cnC ck (.slice p1 n1 cap1) cl cr).toArray 52)) (fun i => w1.heap.size + 1 ≤ i ∨ (w.heap.size + 1 ≤ i ∧ i < w1.heap.size)) 52 14 (.slice (some ⟨w1.heap.size + 1, 0, none⟩) 1 1) ([(⟨ck, csb, cl, cr⟩ : Cn)].map encC)) := by
    have h1 : HoldsL (w1.alloc (.cells (cnC ck (.slice p1 n1 cap1) cl cr).toArray 52)) (fun i => w.heap.size + 1 ≤ i ∧ i < w1.heap.size) (encC ⟨ck, csb, cl, cr⟩) (cnC ck (.slice p1 n1 cap1) cl cr) := by
      refine holdsC (c := ⟨ck, csb, cl, cr⟩) ?_
      exact HH1.out.mono fun i hi hl => ⟨⟨hi, hl⟩, Below.heap_alloc _ _ _ hl⟩
    have e3 : (w1.alloc (.cells (cnC ck (.slice p1 n1 cap1) cl cr).toArray 52)).heap.size = w1.heap.size + 1 := by simp
    have h2 := Row.newS (w := (w1.alloc (.cells (cnC ck (.slice p1 n1 cap1) cl cr).toArray 52))) (S := fun i => w1.heap.size + 1 ≤ i ∨ (w.heap.size + 1 ≤ i ∧ i < w1.heap.size)) (e := 52) (z := 14) (.inl (by rw [e3]; exact Nat.le_refl _)) rfl (h1.mono fun i hi _ => ⟨.inr hi, rfl⟩)
    rw [e3] at h2
    exact h2
  have HL2 : Hid (Lo2 w g V L ((w1.alloc (.cells (cnC ck (.slice p1 n1 cap1) cl cr).toArray 52)).alloc (.cells (cnC ck (.slice p1 n1 cap1) cl cr).toArray 52)) s1 w.heap.size cm0 52 w1.heap.size (cnC ck (.slice p1 n1 cap1) cl cr) 52) := HL1.out.alloc _
  obtain ⟨R, hR⟩ : ∃ R, w.heap.size = R := ⟨_, rfl⟩
  have HRR : Hid (w.heap.size = R) := hR
  obtain ⟨M, hM⟩ : ∃ M, w1.heap.size = M := ⟨_, rfl⟩
  have HMM : Hid (R < M ∧ g < R) := ⟨by rw [← hM, ← hR]; exact HS1.out, by rw [← hR]; exact HGW.out⟩
  obtain ⟨W, hW⟩ : ∃ W, ((w1.alloc (.cells (cnC ck (.slice p1 n1 cap1) cl cr).toArray 52)).alloc (.cells (cnC ck (.slice p1 n1 cap1) cl cr).toArray 52)) = W := ⟨_, rfl⟩
  rw [hW] at HR1 HL2 ⊢
  rw [hR, hM] at HR1 HL2
  rw [hR, hM]
  clear HL1 HL0 HH1 hR hM HS1 HGW hW
  go_loopg [14] L.length (fun k v wr => ∃ (acc : List Cn) (st : St) (ek : Int) (ev : Value) (el er : Opd), Lo2 w g V L wr st R cm0 52 M (cnC ek ev el er) 52 ∧ Row wr (fun i => M + 1 ≤ i ∨ (R + 1 ≤ i ∧ i < M)) 52 14 v (acc.map encC) ∧ sep L [111, 114] P k st acc = F ∧ acc.length + k ≤ 701 ∧ L.length ≤ st.i + k ∧ st.o = ok ∧ acc ≠ [])
  case atStart => exact ⟨_, s1, _, _, _, _, HL2.out, HR1.out, HF0.out, by have := HLEN.out; simp; omega, by omega, by rw [HG1.out.2]; exact HO.out, by simp⟩
  case round =>
    obtain ⟨acc, st, ek, ev, el, er, hlo, hrow, hsp, hk1, hk2, hso, hne⟩ := hrel
    obtain ⟨p, cap, rfl⟩ := hrow.shape
    rw [List.length_map] at hrow ⊢
    obtain ⟨n, hn⟩ : ∃ n, acc.length = n := ⟨_, rfl⟩
    have HNN : Hid (acc.length = n) := hn
    rw [hn] at hrow hk1 ⊢
    have HLr : Hid (Lo2 w g V L wr st R cm0 52 M (cnC ek ev el er) 52) := hlo
    have HRW : Hid (Row wr (fun i => M + 1 ≤ i ∨ (R + 1 ≤ i ∧ i < M)) 52 14 (.slice p n cap) (acc.map encC)) := hrow
    have HT := is_any wr g V L st 1 [111, 114] (.inl ⟨rfl, by kernel_rfl⟩) hlo.env
    have HK : Hid (n + gk ≤ 701 ∧ L.length ≤ st.i + gk ∧ st.o = ok ∧ acc ≠ []) := ⟨hk1, hk2, hso, hne⟩
    unfold tks at HT
    clear hlo hrow hn hk1 hne HL2 HR1 HF0
    cases hm : see L [111, 114] st
    · rw [hm] at HT
      simp only [Bool.false_eq_true, if_false] at HT
      have HT2 : Hid (Calls Tryd.prog 20 #[rp g, .int .i64 1, .string ⟨#[111, 114]⟩] wr fun e w' => e = .returned (.bool false) ∧ Env w' g V L st ∧ Fr (fun i => i = g) wr w') := HT
      rw [sep_stop hm] at hsp
      subst hsp
      clear HT hm hk2 hso
      by_cases h1 : n = 1
      · have hb1 : ((n : Int) == 1) = true := by simp; omega
        obtain ⟨d', hd⟩ : ∃ d', acc = [d'] := List.length_eq_one_iff.1 (HNN.out.trans h1)
        subst hd
        subst h1
        have hw : ∀ w2, Fr (fun i => i = g) wr w2 → ∃ gb cap' p2 cap2, (Value.slice p 1 cap) = .slice (some ⟨gb, 0, none⟩) 1 cap' ∧ w2.rangeAt gb 0 (cnC d'.k (.slice p2 d'.sb.length cap2) d'.l d'.r) ∧ Holds w2 (fun i => R + 1 ≤ i) (.row 52 14 d'.sb) (.slice p2 d'.sb.length cap2) := fun w2 hf => by
          have hmm := HMM.out
          have hr : Row w2 (fun i => R + 1 ≤ i) 52 14 (.slice p 1 cap) ([d'].map encC) := HRW.out.mono fun i hi hl => ⟨by rcases hi with c | c <;> (show R + 1 ≤ i; omega), hf.block i hl (by show ¬ i = g; rcases hi with c | c <;> omega)⟩
          obtain ⟨gb, cap', xs, e1, e2, e3⟩ := Row.only hr
          obtain ⟨p2, cap2, rfl, e4⟩ := encC_cells e3
          exact ⟨gb, cap', p2, cap2, e1, e2, e4⟩
        have HW : Hid (∀ w2, Fr (fun i => i = g) wr w2 → ∃ gb cap' p2 cap2, (Value.slice p 1 cap) = .slice (some ⟨gb, 0, none⟩) 1 cap' ∧ w2.rangeAt gb 0 (cnC d'.k (.slice p2 d'.sb.length cap2) d'.l d'.r) ∧ Holds w2 (fun i => R + 1 ≤ i) (.row 52 14 d'.sb) (.slice p2 d'.sb.length cap2)) := hw
        obtain ⟨dk, dsb, dl, dr⟩ := d'
        obtain ⟨m1, hm1⟩ : ∃ m1, dsb.length = m1 := ⟨_, rfl⟩
        simp only [hm1] at HW
        have HM1 : Hid (dsb.length = m1) := hm1
        clear hw hm1
        go_wp2_with (first
          | (go_at_call 20; refine HT2.out.mono ?_; rintro e w2 ⟨rfl, he2, hf2⟩; obtain ⟨gb, cap', p2, cap2, hee, hrg, hho⟩ := HW.out w2 hf2; simp only [Value.slice.injEq, true_and] at hee; obtain ⟨rfl, rfl⟩ := hee; have HRG : Hid (w2.rangeAt gb 0 (cnC dk (.slice p2 m1 cap2) dl dr)) := hrg; have HHO : Hid (Holds w2 (fun i => R + 1 ≤ i) (.row 52 14 dsb) (.slice p2 m1 cap2)) := hho; have HL3 : Hid (Loc w g V L w2 st R cm0 52) := (HLr.out.call he2 hf2).loc; clear he2 hf2 hrg hho)
          | ((with_reducible show wpList _ _ _ (Oper.mk _ (.load _ _) _ _ _ _ :: _) _ _); refine wpList_load_mid (by rfl) 52 _ (by rfl) gb 0 (by rfl) (cnC dk (.slice p2 m1 cap2) dl dr) _ HRG.out Tryd.underlying52 rfl (by kernel_rfl) ?_)
          | ((with_reducible show wpList _ _ _ (Oper.mk _ (.store _ _ _) _ _ _ _ :: _) _ _); refine wp_st (by rfl) 52 _ _ (by rfl) R 0 cm0 52 (cnV dk (.slice p2 m1 cap2) dl dr) (cnC dk (.slice p2 m1 cap2) dl dr) (by rfl) (by rfl) (by rfl) HL3.out.blk (Nat.le_of_ble_eq_true rfl) (by kernel_rfl) (by rfl) ?_; intro w9 hw_w9 hf_w9; have HL9 : Hid (Loc w g V L w9 st R (cnC dk (.slice p2 m1 cap2) dl dr) 52) := HL3.out.st hw_w9 hf_w9; have HH9 : Hid (Holds w9 (fun i => R + 1 ≤ i) (.row 52 14 dsb) (.slice p2 m1 cap2)) := HHO.out.fr hf_w9 (by { omega }); clear hw_w9 hf_w9))
        refine ret_loc R _ _ _ HL9.out.blk rfl rfl (by rfl) Tryd.underlying52 rfl (by kernel_rfl) ?_
        have e1 : one 2 [(⟨dk, dsb, dl, dr⟩ : Cn)] = ⟨dk, dsb, dl, dr⟩ := rfl
        rw [e1]
        refine ⟨p2, cap2, ?_, ?_, HL9.out.env, HL9.out.fr⟩
        · simp only [HM1.out]
        · simp only [HM1.out]
          exact HH9.out.low (by have := HRR.out; omega)
      · have hb1 : ((n : Int) == 1) = false := by simp; omega
        have H1 : Hid (n ≠ 1) := h1
        clear h1
        go_wp2_with (first
          | (go_at_call 20; refine HT2.out.mono ?_; rintro e w2 ⟨rfl, he2, hf2⟩; have HRW2 : Hid (Row w2 (fun i => R + 1 ≤ i) 52 14 (.slice p n cap) (acc.map encC)) := HRW.out.mono (fun i hi hl => ⟨by { have := HMM.out; rcases hi with c | c <;> (show R + 1 ≤ i; omega) }, hf2.block i hl (by { show ¬ i = g; have := HMM.out; rcases hi with c | c <;> omega })⟩); have HL3 : Hid (Loc w g V L w2 st R cm0 52) := (HLr.out.call he2 hf2).loc; clear he2 hf2)
          | ((with_reducible show wpList _ _ _ (Oper.mk _ (.store _ _ _) _ _ _ _ :: _) _ _); refine wp_st (by rfl) 52 _ _ (by rfl) R 0 cm0 52 (cnV 2 (.slice p n cap) opd0 opd0) (cnC 2 (.slice p n cap) opd0 opd0) (by rfl) (by rfl) (by rfl) HL3.out.blk (Nat.le_of_ble_eq_true rfl) (by kernel_rfl) (by rfl) ?_; intro w9 hw_w9 hf_w9; have HL9 : Hid (Loc w g V L w9 st R (cnC 2 (.slice p n cap) opd0 opd0) 52) := HL3.out.st hw_w9 hf_w9; have HH9 : Hid (Holds w9 (fun i => R + 1 ≤ i) (.row 52 14 (acc.map encC)) (.slice p n cap)) := HRW2.out.holds.fr hf_w9 (by { omega }); clear hw_w9 hf_w9))
        refine ret_loc R _ _ _ HL9.out.blk rfl rfl (by rfl) Tryd.underlying52 rfl (by kernel_rfl) ?_
        have e1 : one 2 acc = ⟨2, acc.map encC, opd0, opd0⟩ := by
          have hh := HNN.out
          have hq := H1.out
          match acc, hh with
          | [], _ => rfl
          | [c], hh => exact absurd hh.symm hq
          | c :: d :: r, _ => rfl
        rw [e1]
        refine ⟨p, cap, ?_, ?_, HL9.out.env, HL9.out.fr⟩
        · simp only [List.length_map, HNN.out]
        · simp only [List.length_map, HNN.out]
          exact HH9.out.low (by have := HRR.out; omega)
    · rw [hm] at HT
      simp only [if_true] at HT
      have HT2 : Hid (Calls Tryd.prog 20 #[rp g, .int .i64 1, .string ⟨#[111, 114]⟩] wr fun e w' => e = .returned (.bool true) ∧ Env w' g V L st.adv ∧ Fr (fun i => i = g) wr w') := HT
      have hlt := (see_lt hm).2
      obtain ⟨k2, rfl⟩ : ∃ k2, gk = k2 + 1 := ⟨gk - 1, by omega⟩
      rw [sep_step hm] at hsp
      have hg2 := HG.out st.adv hso
      obtain ⟨d', hd⟩ : ∃ d', (P st.adv).1 = d' := ⟨_, rfl⟩
      obtain ⟨s2, hs2⟩ : ∃ s2, (P st.adv).2 = s2 := ⟨_, rfl⟩
      rw [hd, hs2] at hsp
      rw [hs2] at hg2
      have HP4 : Hid (∀ W, Env W g V L st.adv → Calls Tryd.prog 87 #[rp g, .int .i64 1, .int .i64 d] W (CPost W g V L d' s2)) := fun W hW => by
        have := HP.out W st.adv hW hso
        rw [hd, hs2] at this
        exact this
      have HSP : Hid (sep L [111, 114] P k2 s2 (acc ++ [d']) = F) := hsp
      have HG2 : Hid (st.i + 1 ≤ s2.i ∧ s2.o = st.o) := hg2
      obtain ⟨dk, dsb, dl, dr⟩ := d'
      obtain ⟨m1, hm1⟩ : ∃ m1, dsb.length = m1 := ⟨_, rfl⟩
      have HLN : Hid ((acc.map encC).length ≤ 800) := by
        have h1 := HNN.out
        have h2 := HK.out
        show (acc.map encC).length ≤ 800
        rw [List.length_map]
        omega
      unfold CPost at HP4
      simp only [hm1] at HP4
      clear HT hm hd hs2 hsp hg2 hm1 hk2 hso hlt
      go_wp2_with (first
        | (go_at_call 87; refine (HP4.out _ HL3.out.env).mono ?_; rintro e w3 ⟨p3, cap3, rfl, hh3, he3, hf3⟩; have HRW3 : Hid (Row w3 (fun i => M + 1 ≤ i ∨ (R + 1 ≤ i ∧ i < M)) 52 14 (.slice p n cap) (acc.map encC)) := HRW2.out.mono (fun i hi hl => ⟨hi, hf3.block i hl (by { show ¬ i = g; have := HMM.out; rcases hi with c | c <;> omega })⟩); have HH3 : Hid (Holds w3 (fun i => M + 1 ≤ i ∧ (Value.slice p n cap).ownBlock ≠ some i) (.row 52 14 dsb) (.slice p3 m1 cap3)) := hh3.mono (fun i hi hl => ⟨⟨by { have := blk_lt HL3.out.blk2; have h9 : w2.heap.size ≤ i := hi; show M + 1 ≤ i; omega }, fun h8 => by { have := HRW2.out.own_lt h8; have h9 : w2.heap.size ≤ i := hi; omega }⟩, rfl⟩); have HL4 : Hid (Lo2 w g V L w3 s2 R cm0 52 M (cnC ek ev el er) 52) := HL3.out.call he3 hf3; clear hh3 he3 hf3)
        | (go_at_call 20; refine HT2.out.mono ?_; rintro e w2 ⟨rfl, he2, hf2⟩; have HRW2 : Hid (Row w2 (fun i => M + 1 ≤ i ∨ (R + 1 ≤ i ∧ i < M)) 52 14 (.slice p n cap) (acc.map encC)) := HRW.out.mono (fun i hi hl => ⟨hi, hf2.block i hl (by { show ¬ i = g; have := HMM.out; rcases hi with c | c <;> omega })⟩); have HL3 : Hid (Lo2 w g V L w2 st.adv R cm0 52 M (cnC ek ev el er) 52) := HLr.out.call he2 hf2; clear he2 hf2)
        | ((with_reducible show wpList _ _ _ (Oper.mk _ (.store _ _ _) _ _ _ _ :: _) _ _); refine wp_st (by rfl) 52 _ _ (by rfl) M 0 (cnC ek ev el er) 52 (cnV dk (.slice p3 m1 cap3) dl dr) (cnC dk (.slice p3 m1 cap3) dl dr) (by rfl) (by rfl) (by rfl) HL4.out.blk2 (Nat.le_of_ble_eq_true rfl) (by kernel_rfl) (by rfl) ?_; intro w4 hw4 hf4; have HL5 : Hid (Lo2 w g V L w4 s2 R cm0 52 M (cnC dk (.slice p3 m1 cap3) dl dr) 52) := HL4.out.st2 hw4 hf4; have HRW4 : Hid (Row w4 (fun i => M + 1 ≤ i ∨ (R + 1 ≤ i ∧ i < M)) 52 14 (.slice p n cap) (acc.map encC)) := HRW3.out.mono (fun i hi hl => ⟨hi, hf4.block i hl (by { show ¬ i = M; rcases hi with c | c <;> omega })⟩); have HH4 : Hid (Holds w4 (fun i => M + 1 ≤ i ∧ (Value.slice p n cap).ownBlock ≠ some i) (.row 52 14 dsb) (.slice p3 m1 cap3)) := HH3.out.mono (fun i hi hl => ⟨hi, hf4.block i hl (by { show ¬ i = M; have := hi.1; omega })⟩); have HBW : Hid (M + 1 ≤ w4.heap.size) := by { have h2 := blk_lt HL5.out.blk2; show M + 1 ≤ _; omega }; clear hw4 hf4)
        | ((with_reducible show wpList _ _ _ (Oper.mk _ (.load _ _) _ _ _ _ :: _) _ _); refine wp_ld (by rfl) 52 _ (by rfl) M (cnC dk (.slice p3 m1 cap3) dl dr) 52 _ (by rfl) HL5.out.blk2 Tryd.underlying52 rfl (by kernel_rfl) ?_)
        | (at_builtin; refine wp_appS (by rfl) _ _ 46 (by rfl) 52 i0 zC 14 176 Tryd.underlying46 HI.out.1 HI.out.2.1 HI.out.2.2.1 HI.out.2.2.2 rfl (by omega) (fun i => M + 1 ≤ i ∨ (R + 1 ≤ i ∧ i < M)) (.slice p n cap) (acc.map encC) (by rfl) (HRW4.out.alloc _) (.inl (Nat.le_trans HBW.out (by simp))) (encC ⟨dk, dsb, dl, dr⟩) (cnC dk (.slice p3 m1 cap3) dl dr) ⟨w4.heap.size, 0, none⟩ (by rfl) (by rfl) (World.news_of_block (heap_alloc_new _ _)) (by rfl) (((holdsC (c := ⟨dk, dsb, dl, dr⟩) HH4.out).mono (fun i hi _ => ⟨⟨.inl hi.1, hi.2⟩, rfl⟩)).on ((Fr.refl _ _).alloc _)) HLN.out (by omega) ?_; intro v' w5 hrw hgb hown; have HRW5 : Hid (Row w5 (fun i => M + 1 ≤ i ∨ (R + 1 ≤ i ∧ i < M)) 52 14 v' (acc.map encC ++ [encC ⟨dk, dsb, dl, dr⟩])) := hrw; have HL6 : Hid (Lo2 w g V L w5 s2 R cm0 52 M (cnC dk (.slice p3 m1 cap3) dl dr) 52) := (HL5.out.alloc _).grown hgb (fun k hk => by { have := hown k hk; have := HMM.out; rcases hown k hk with c | c <;> omega }); clear hrw hgb hown))
      go_roundg k2
      case measure => omega
      case rel =>
        have hk := HK.out
        have hn := HNN.out
        have hg2 := HG2.out
        refine ⟨acc ++ [⟨dk, dsb, dl, dr⟩], s2, dk, _, dl, dr, HL6.out, ?_, HSP.out, by simp; omega, by omega, by omega, by simp⟩
        rw [List.map_append]
        exact HRW5.out
/-- A condition, n deep yet. -/
theorem tests_2 (g : Nat) (V : Value) (L : List Tk) : ∀ (n : Nat), n ≤ 7 → ∀ W s, Env W g V L s → s.o = 7 - n → Calls Tryd.prog 87 #[rp g, .int .i64 2, .int .i64 (8 - n : Nat)] W (CPost W g V L (ntt L n s).1 (ntt L n s).2)
  | n, hn, W, s, h, ho => by
    obtain ⟨⟨k, tx, m⟩, ht⟩ : ∃ p, nxt L s = p := ⟨_, rfl⟩
    have hs1 := is_see h.fin (s := s) (k := 1) (x := [110, 111, 116]) (.inl ⟨rfl, by kernel_rfl⟩)
    have hs2 := is_see h.fin (s := s) (k := 4) (x := [40]) (.inr ⟨rfl, by decide⟩)
    rw [ht] at hs1 hs2
    simp only at hs1 hs2
    obtain ⟨tl, htl⟩ : ∃ tl, tx.data.toList = tl := ⟨_, rfl⟩
    have htl' : tx.toList = tl := by rw [Lib.toList_data, htl]
    rw [htl] at hs1 hs2
    by_cases k1 : k = 1
    · by_cases t1 : tl = [110, 111, 116]
      · have hb1 : see L [110, 111, 116] s = true := by rw [← hs1]; simp [k1, t1]
        cases n with
        | zero =>
          rw [ntt_deep L s (.inl hb1) (by omega)]
          exact tests_deep_not W g V L s _ k m tx h ht k1 (htl'.trans t1) (by omega)
        | succ n =>
          rw [ntt_not L n s hb1 (by omega)]
          obtain ⟨⟨⟨ck, csb, cl, cr⟩, s2⟩, hc⟩ : ∃ p, ntt L n ⟨s.i + 1, s.o + 1, s.e⟩ = p := ⟨_, rfl⟩
          rw [hc]
          refine tests_not W g V L s _ k m tx h ht ck csb cl cr s2 k1 (htl'.trans t1) (by omega) (by omega) hb1 fun W' hW' => ?_
          have := tests_2 g V L n (by omega) W' ⟨s.i + 1, s.o + 1, s.e⟩ hW' (by show s.o + 1 = _; omega)
          rw [hc] at this
          rw [show ((8 - (n + 1) : Nat) : Int) + 1 = ((8 - n : Nat) : Int) by omega]
          exact this
      · have hb1 : see L [110, 111, 116] s = false := by rw [← hs1]; simp [t1]
        have hb2 : see L [40] s = false := by rw [← hs2]; simp [k1]
        rw [ntt_cmp L n s hb1 hb2]
        exact tests_cmp_w W g V L s _ k m tx h ht k1 (fun c => t1 (htl'.symm.trans c)) hb1 hb2
    · have hb1 : see L [110, 111, 116] s = false := by rw [← hs1]; simp [k1]
      by_cases k4 : k = 4
      · by_cases t4 : tl = [40]
        · have hb2 : see L [40] s = true := by rw [← hs2]; simp [k4, t4]
          cases n with
          | zero =>
            rw [ntt_deep L s (.inr hb2) (by omega)]
            exact tests_deep_par W g V L s _ k m tx h ht k4 (htl'.trans t4) (by omega)
          | succ n =>
            rw [ntt_par L n s hb1 hb2 (by omega)]
            obtain ⟨⟨⟨ck, csb, cl, cr⟩, s2⟩, hc⟩ : ∃ p, orr L (ntt L n) ⟨s.i + 1, s.o + 1, s.e⟩ = p := ⟨_, rfl⟩
            rw [hc]
            refine tests_par W g V L s _ k m tx h ht ck csb cl cr s2 _ k4 (htl'.trans t4) (by omega) (by omega) hb1 hb2 rfl fun W' hW' => ?_
            have hg := ntt_g L n (7 - n) (by omega)
            have h1 := joined_and g V L (ntt L n) (7 - n) ((8 - n : Nat) : Int) hg (fun W s h ho => tests_2 g V L n (by omega) W s h ho)
            have h2 := joined_or g V L (jnd L 1 [97, 110, 100] (ntt L n)) (7 - n) ((8 - n : Nat) : Int) (jnd_g L 1 [97, 110, 100] hg) h1 W' ⟨s.i + 1, s.o + 1, s.e⟩ hW' (by show s.o + 1 = _; omega)
            unfold orr at hc
            rw [hc] at h2
            rw [show ((8 - (n + 1) : Nat) : Int) + 1 = ((8 - n : Nat) : Int) by omega]
            exact h2
        · have hb2 : see L [40] s = false := by rw [← hs2]; simp [t4]
          rw [ntt_cmp L n s hb1 hb2]
          exact tests_cmp_m W g V L s _ k m tx h ht k4 (fun c => t4 (htl'.symm.trans c)) hb1 hb2
      · have hb2 : see L [40] s = false := by rw [← hs2]; simp [k4]
        rw [ntt_cmp L n s hb1 hb2]
        exact tests_cmp_o W g V L s _ k m tx h ht k1 k4 hb1 hb2
theorem tests_any (g : Nat) (V : Value) (L : List Tk) (W : World) (s : St) (h : Env W g V L s) (ho : s.o = 0) : Calls Tryd.prog 87 #[rp g, .int .i64 0, .int .i64 1] W (CPost W g V L (orr L (ntt L 7) s).1 (orr L (ntt L 7) s).2) := by
  have hg := ntt_g L 7 0 (by omega)
  have h1 := joined_and g V L (ntt L 7) 0 1 hg (fun W s h ho => tests_2 g V L 7 (by omega) W s h ho)
  exact joined_or g V L (jnd L 1 [97, 110, 100] (ntt L 7)) 0 1 (jnd_g L 1 [97, 110, 100] hg) h1 W s h ho
end Go.Proofs.YtnlmkdncifijlaaDoor.Ref
