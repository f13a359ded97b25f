/-
  A comparison.
-/
import Derived.Test.YtnlmkdncifijlaaDoorF
namespace Go.Proofs.YtnlmkdncifijlaaDoor
open Go.ChangeShapes Go.WideShapes Go.ChangeAt Go.RowKit
set_option linter.unusedVariables false
set_option linter.unusedSimpArgs false
/-- As Loc, with a second block. -/
structure Lo2 (w0 : World) (g : Nat) (V : Value) (L : List Tk) (w : World) (s : St) (R : Nat) (cs : List Value) (T : TypeId) (M : Nat) (ds : List Value) (U : TypeId) : Prop where
  loc : Loc w0 g V L w s R cs T
  lo2 : w0.heap.size ≤ M
  ne : M ≠ R
  blk2 : w.heap[M]? = some (.cells ds.toArray U (0, 0))
section
variable {w0 w w' : World} {g R M : Nat} {V : Value} {L : List Tk} {s s' : St} {cs ds : List Value} {T U : TypeId}
theorem Loc.two (h : Loc w0 g V L w s R cs T) (ds : List Value) (U : TypeId) : Lo2 w0 g V L (w.alloc (.cells ds.toArray U)) s R cs T w.heap.size ds U :=
  ⟨h.alloc _, Nat.le_trans h.lo (Nat.le_of_lt (blk_lt h.blk)), by have := blk_lt h.blk; omega, heap_alloc_new _ _⟩
theorem Lo2.call (h : Lo2 w0 g V L w s R cs T M ds U) (he : Env w' g V L s') (hf : Fr (fun i => i = g) w w') : Lo2 w0 g V L w' s' R cs T M ds U :=
  ⟨h.loc.call he hf, h.lo2, h.ne, (hf.block M (blk_lt h.blk2) (by show ¬ M = g; have := h.lo2; have := h.loc.hi; omega)).trans h.blk2⟩
theorem Lo2.on (h : Lo2 w0 g V L w s R cs T M ds U) (hf : Fr (fun _ => False) w w') : Lo2 w0 g V L w' s R cs T M ds U :=
  h.call (h.loc.env.fr hf) (hf.mono fun _ h _ => h.elim)
theorem Lo2.alloc (h : Lo2 w0 g V L w s R cs T M ds U) (o : Obj) : Lo2 w0 g V L (w.alloc o) s R cs T M ds U := h.on ((Fr.refl _ _).alloc o)
theorem Lo2.drewN (h : Lo2 w0 g V L w s R cs T M ds U) (n : Nat) : Lo2 w0 g V L (w.drewN n) s R cs T M ds U := h.on ((Fr.refl _ _).drewN n)
theorem Lo2.env (h : Lo2 w0 g V L w s R cs T M ds U) : Env w g V L s := h.loc.env
theorem Lo2.blk (h : Lo2 w0 g V L w s R cs T M ds U) : w.heap[R]? = some (.cells cs.toArray T (0, 0)) := h.loc.blk
/-- A store into the second block. -/
theorem Lo2.st2 {vs : List Value} {o : Nat} (h : Lo2 w0 g V L w s R cs T M ds U) (hb : w'.heap[M]? = some (.cells (ovr ds o vs).toArray U (0, 0))) (hf : Fr (fun i => i = M) w w') : Lo2 w0 g V L w' s R cs T M (ovr ds o vs) U := by
  have hlo := h.lo2
  have hhi := h.loc.hi
  have hg := blk_lt h.loc.env.blk
  have hR := blk_lt h.loc.blk
  have hne := h.ne
  refine ⟨⟨h.loc.env.on hf.size (fun k hk => hf.block k (by omega) (by show ¬ k = M; omega)) ((hf.block g hg (by show ¬ g = M; omega)).trans h.loc.env.blk) h.loc.env.pos h.loc.env.opn, h.loc.fr.stored hf (.inr hlo), h.loc.lo, hhi, (hf.block R hR (by show ¬ R = M; omega)).trans h.loc.blk⟩, hlo, hne, hb⟩
theorem Lo2.st {vs : List Value} {o : Nat} (h : Lo2 w0 g V L w s R cs T M ds U) (hb : w'.heap[R]? = some (.cells (ovr cs o vs).toArray T (0, 0))) (hf : Fr (fun i => i = R) w w') : Lo2 w0 g V L w' s R (ovr cs o vs) T M ds U :=
  ⟨h.loc.st hb hf, h.lo2, h.ne, (hf.block M (blk_lt h.blk2) h.ne).trans h.blk2⟩
theorem Lo2.apart {b : Nat} (h : Lo2 w0 g V L w s R cs T M ds U) (hf : Fr (fun i => i = b) w w') (h0 : w0.heap.size ≤ b) (h1 : R ≠ b) (h2 : M ≠ b) : Lo2 w0 g V L w' s R cs T M ds U := by
  have hhi := h.loc.hi
  have hg := blk_lt h.loc.env.blk
  exact ⟨⟨h.loc.env.on hf.size (fun k hk => hf.block k (by omega) (by show ¬ k = b; omega)) ((hf.block g hg (by show ¬ g = b; omega)).trans h.loc.env.blk) h.loc.env.pos h.loc.env.opn, h.loc.fr.stored hf (.inr h0), h.loc.lo, hhi, (hf.block R (blk_lt h.loc.blk) h1).trans h.loc.blk⟩, h.lo2, h.ne, (hf.block M (blk_lt h.blk2) h2).trans h.blk2⟩
theorem Lo2.fr (h : Lo2 w0 g V L w s R cs T M ds U) : Fr (fun i => i = g) w0 w := h.loc.fr
end
abbrev cnC (k : Int) (v : Value) (l r : Opd) : List Value := [.int .i64 k, v, .int .i64 l.k, .int .i64 l.vk, .int .i64 l.vi, .string l.vt, .string l.va, .string l.fd, .int .i64 r.k, .int .i64 r.vk, .int .i64 r.vi, .string r.vt, .string r.va, .string r.fd]
abbrev cnV (k : Int) (v : Value) (l r : Opd) : Value := .agg #[.int .i64 k, v, .int .i64 l.k, .int .i64 l.vk, .int .i64 l.vi, .string l.vt, .string l.va, .string l.fd, .int .i64 r.k, .int .i64 r.vk, .int .i64 r.vi, .string r.vt, .string r.va, .string r.fd]
def cm0 : List Value := cnC 0 (.slice none 0 0) opd0 opd0
def cmR : List Value := cml.flatMap fun c => [.string (txt c.1), .int .i64 c.2.1, .bool c.2.2]
theorem cmt_range {w : World} (h : Cmt w) : w.rangeAt 4 0 cmR := by
  intro j v hv
  rw [Nat.zero_add]
  have hj : j < 18 := by
    have := (List.getElem?_eq_some_iff.1 hv).1
    exact this
  have hq := h.2 (j / 3) (by omega)
  rcases (by omega : j % 3 = 0 ∨ j % 3 = 1 ∨ j % 3 = 2) with c | c | c
  all_goals
    obtain ⟨q, hq'⟩ : ∃ q, j / 3 = q := ⟨_, rfl⟩
    rw [hq'] at hq
    have hq6 : q < 6 := by omega
  · obtain rfl : j = q * 3 := by omega
    rw [hq.1, ← hv]
    match q, hq6 with
    | 0, _ => rfl
    | 1, _ => rfl
    | 2, _ => rfl
    | 3, _ => rfl
    | 4, _ => rfl
    | 5, _ => rfl
  · obtain rfl : j = q * 3 + 1 := by omega
    rw [hq.2.1, ← hv]
    match q, hq6 with
    | 0, _ => rfl
    | 1, _ => rfl
    | 2, _ => rfl
    | 3, _ => rfl
    | 4, _ => rfl
    | 5, _ => rfl
  · obtain rfl : j = q * 3 + 2 := by omega
    rw [hq.2.2, ← hv]
    match q, hq6 with
    | 0, _ => rfl
    | 1, _ => rfl
    | 2, _ => rfl
    | 3, _ => rfl
    | 4, _ => rfl
    | 5, _ => rfl
theorem index_cmp0 (w : World) : (Instr.index 209 (.agg cmR.toArray) (.int .i64 0)).run Tryd.prog w = .ok (.agg #[.string (txt [61]), .int .i64 4, .bool false]) w := by kernel_rfl
theorem index_cmp1 (w : World) : (Instr.index 209 (.agg cmR.toArray) (.int .i64 1)).run Tryd.prog w = .ok (.agg #[.string (txt [47, 61]), .int .i64 5, .bool false]) w := by kernel_rfl
theorem index_cmp2 (w : World) : (Instr.index 209 (.agg cmR.toArray) (.int .i64 2)).run Tryd.prog w = .ok (.agg #[.string (txt [60]), .int .i64 6, .bool false]) w := by kernel_rfl
theorem index_cmp3 (w : World) : (Instr.index 209 (.agg cmR.toArray) (.int .i64 3)).run Tryd.prog w = .ok (.agg #[.string (txt [60, 61]), .int .i64 7, .bool false]) w := by kernel_rfl
theorem index_cmp4 (w : World) : (Instr.index 209 (.agg cmR.toArray) (.int .i64 4)).run Tryd.prog w = .ok (.agg #[.string (txt [62]), .int .i64 6, .bool true]) w := by kernel_rfl
theorem index_cmp5 (w : World) : (Instr.index 209 (.agg cmR.toArray) (.int .i64 5)).run Tryd.prog w = .ok (.agg #[.string (txt [62, 61]), .int .i64 7, .bool true]) w := by kernel_rfl
theorem index_cmp (k : Nat) (hk : k < 6) (w : World) :
    (Instr.index 209 (.agg cmR.toArray) (.int .i64 k)).run Tryd.prog w = .ok (.agg #[.string (txt (cml.getD k ([], 0, false)).1), .int .i64 (cml.getD k ([], 0, false)).2.1, .bool (cml.getD k ([], 0, false)).2.2]) w := by
  match k, hk with
  | 0, _ => exact index_cmp0 w
  | 1, _ => exact index_cmp1 w
  | 2, _ => exact index_cmp2 w
  | 3, _ => exact index_cmp3 w
  | 4, _ => exact index_cmp4 w
  | 5, _ => exact index_cmp5 w
theorem cmf_at (L : List Tk) (l : Opd) (s : St) (k : Nat) (hk : k < 6) (h : see L (cml.getD k ([], 0, false)).1 s = true) :
    cmf L l s (cml.drop k) = (if (cml.getD k ([], 0, false)).2.2 = true then (⟨(cml.getD k ([], 0, false)).2.1, [], (sde L s.adv).1, l⟩, (sde L s.adv).2) else (⟨(cml.getD k ([], 0, false)).2.1, [], l, (sde L s.adv).1⟩, (sde L s.adv).2)) := by
  have hk' : k < cml.length := hk
  have e : cml.getD k ([], 0, false) = cml[k] := by simp [List.getD, List.getElem?_eq_getElem hk']
  rw [e] at h ⊢
  rw [List.drop_eq_getElem_cons hk', cmf, if_pos h]
theorem cmf_no (L : List Tk) (l : Opd) (s : St) (k : Nat) (hk : k < 6) (h : see L (cml.getD k ([], 0, false)).1 s = false) : cmf L l s (cml.drop k) = cmf L l s (cml.drop (k + 1)) := by
  have hk' : k < cml.length := hk
  have e : cml.getD k ([], 0, false) = cml[k] := by simp [List.getD, List.getElem?_eq_getElem hk']
  rw [e] at h
  rw [List.drop_eq_getElem_cons hk', cmf, if_neg (by rw [h]; decide)]
set_option maxHeartbeats 8000000 in
theorem compared_any (w : World) (g : Nat) (V : Value) (L : List Tk) (s : St) (h : Env w g V L s) :
    Calls Tryd.prog 162 #[rp g] w fun e w' => e = .returned (cnV (cmp L s).1.k (.slice none 0 0) (cmp L s).1.l (cmp L s).1.r) ∧ (cmp L s).1.sb = [] ∧ Env w' g V L (cmp L s).2 ∧ Fr (fun i => i = g) w w' := by
  have HL0 : Hid (Loc w g V L (w.alloc (.cells cm0.toArray 52)) s w.heap.size cm0 52) := Loc.start h cm0 _
  unfold cmp
  obtain ⟨l, hl⟩ : ∃ l, (sde L s).1 = l := ⟨_, rfl⟩
  obtain ⟨s1, hs1⟩ : ∃ s1, (sde L s).2 = s1 := ⟨_, rfl⟩
  have HS : Hid (∀ W, Env W g V L s → Calls Tryd.prog 140 #[rp g] W fun e w' => e = .returned (opV l) ∧ Env w' g V L s1 ∧ Fr (fun i => i = g) W w') := fun W hW => by
    have := side_any W g V L s hW
    rw [hl, hs1] at this
    exact this
  rw [hl, hs1]
  have HIX : Hid (∀ (k : Nat), k < 6 → ∀ W, (Instr.index 209 (.agg cmR.toArray) (.int .i64 k)).run Tryd.prog W = .ok (.agg #[.string (txt (cml.getD k ([], 0, false)).1), .int .i64 (cml.getD k ([], 0, false)).2.1, .bool (cml.getD k ([], 0, false)).2.2]) W) := fun k hk W => index_cmp k hk W
  obtain ⟨F, hF⟩ : ∃ F, cmf L l s1 cml = F := ⟨_, rfl⟩
  rw [hF]
  have HF0 : Hid (cmf L l s1 (cml.drop 0) = F) := hF
  obtain ⟨lk, lvk, lvi, lvt, lva, lfd⟩ := l
  clear hl hs1 hF h
  go_enter Tryd.func162, Tryd.ntmps162
  go_wp2_with (first
      | (go_at_call 140; refine (HS.out _ HL0.out.env).mono ?_; rintro e w1 ⟨rfl, he_w1, hf_w1⟩; have HL1 : Hid (Loc w g V L w1 s1 w.heap.size cm0 52) := (HL0.out.call he_w1 hf_w1); clear he_w1 hf_w1)
      | (refine wpList_load_mid (by rfl) 209 _ (by rfl) 4 0 (by rfl) cmR _ (cmt_range (HL1.out.env.alloc _).cm) Tryd.underlying209 rfl (by kernel_rfl) ?_))
  obtain ⟨AA, hAA⟩ : ∃ AA, cmR.toArray = AA := ⟨_, rfl⟩
  rw [hAA] at HIX ⊢
  have HL2 : Hid (Lo2 w g V L (w1.alloc (.cells #[.int .i64 lk, .int .i64 lvk, .int .i64 lvi, .string lvt, .string lva, .string lfd] 50)) s1 w.heap.size cm0 52 w1.heap.size (opC ⟨lk, lvk, lvi, lvt, lva, lfd⟩) 50) := HL1.out.two (opC ⟨lk, lvk, lvi, lvt, lva, lfd⟩) _
  obtain ⟨M, hM⟩ : ∃ M, w1.heap.size = M := ⟨_, rfl⟩
  obtain ⟨wl, hwl⟩ : ∃ wl, w1.alloc (.cells #[.int .i64 lk, .int .i64 lvk, .int .i64 lvi, .string lvt, .string lva, .string lfd] 50) = wl := ⟨_, rfl⟩
  rw [hM, hwl] at HL2
  rw [hM, hwl]
  obtain ⟨R, hR⟩ : ∃ R, w.heap.size = R := ⟨_, rfl⟩
  rw [hR] at HL2 ⊢
  clear hAA hM hwl HL1 HL0 HS hR
  go_loopw [10] (fun i wr => ∃ k : Nat, k ≤ 6 ∧ i = .int .i64 k ∧ Lo2 w g V L wr s1 R cm0 52 M (opC ⟨lk, lvk, lvi, lvt, lva, lfd⟩) 50 ∧ cmf L ⟨lk, lvk, lvi, lvt, lva, lfd⟩ s1 (cml.drop k) = F) (fun i _ => 6 - (intOf i).toNat)
  case atStart => exact ⟨0, by omega, rfl, HL2.out, HF0.out⟩
  case round =>
    obtain ⟨k, hk, rfl, hlo, hf⟩ := hrel
    have HLr : Hid (Lo2 w g V L wr s1 R cm0 52 M (opC ⟨lk, lvk, lvi, lvt, lva, lfd⟩) 50) := hlo
    have HF : Hid (cmf L ⟨lk, lvk, lvi, lvt, lva, lfd⟩ s1 (cml.drop k) = F) := hf
    clear hlo hf HL2 HF0
    by_cases hlt : k < 6
    · have hix := HIX.out k hlt
      have hat := cmf_at L ⟨lk, lvk, lvi, lvt, lva, lfd⟩ s1 k hlt
      have hno := cmf_no L ⟨lk, lvk, lvi, lvt, lva, lfd⟩ s1 k hlt
      obtain ⟨c, hc⟩ : ∃ c, cml.getD k ([], 0, false) = c := ⟨_, rfl⟩
      rw [hc] at hix hat hno
      obtain ⟨mk, kd, tn⟩ := c
      obtain ⟨y, hy⟩ : ∃ y, txt mk = y := ⟨_, rfl⟩
      have HT : Hid (∀ W, Env W g V L s1 → Calls Tryd.prog 40 #[rp g, .string y] W fun e w' => e = .returned (.bool (see L mk s1)) ∧ Env w' g V L (tks L mk s1) ∧ Fr (fun i => i = g) W w') := fun W hW => by rw [← hy]; exact takes_any W g V L s1 mk hW
      unfold tks at HT
      simp only [hy] at hix
      cases hm : see L mk s1
      · rw [hm] at HT
        simp only [Bool.false_eq_true, if_false] at HT
        have HNO : Hid (cmf L ⟨lk, lvk, lvi, lvt, lva, lfd⟩ s1 (cml.drop (k + 1)) = F) := (hno hm).symm.trans HF.out
        clear hc hat hno hm HF hy
        go_wp2_with (go_at_call 40; refine (HT.out _ (HLr.out.alloc _).env).mono ?_; rintro e w3 ⟨rfl, he3, hf3⟩; have HL3 : Hid (Lo2 w g V L w3 s1 R cm0 52 M (opC ⟨lk, lvk, lvi, lvt, lva, lfd⟩) 50) := (HLr.out.alloc _).call he3 hf3; clear he3 hf3)
        go_roundw
        case rel => exact ⟨k + 1, by omega, by go_num, HL3.out, HNO.out⟩
        case measure => simp [intOf]; omega
      · rw [hm] at HT
        simp only [if_true] at HT
        have hfin := (hat hm).symm.trans HF.out
        obtain ⟨r, hr⟩ : ∃ r, (sde L s1.adv).1 = r := ⟨_, rfl⟩
        obtain ⟨s2, hs2⟩ : ∃ s2, (sde L s1.adv).2 = s2 := ⟨_, rfl⟩
        have HS : Hid (∀ W, Env W g V L s1.adv → Calls Tryd.prog 140 #[rp g] W fun e w' => e = .returned (opV r) ∧ Env w' g V L s2 ∧ Fr (fun i => i = g) W w') := fun W hW => by
          have := side_any W g V L s1.adv hW
          rw [hr, hs2] at this
          exact this
        rw [hr, hs2] at hfin
        obtain ⟨rk, rvk, rvi, rvt, rva, rfd⟩ := r
        clear hc hat hno hm HF hy hr hs2
        have hfr : ∀ {a b : World}, Fr (fun i => i = g) a b → ∀ (k : Nat), k < a.heap.size → k ≠ g → b.heap[k]? = a.heap[k]? := fun h k hk hg => h.block k hk hg
        have HFR : Hid (∀ {a b : World}, Fr (fun i => i = g) a b → ∀ (k : Nat), k < a.heap.size → k ≠ g → b.heap[k]? = a.heap[k]?) := hfr
        have HC0 : Hid ((wr.alloc (.cells #[.string y, .int .i64 kd, .bool tn] 208)).heap[wr.heap.size]? = some (.cells #[.string y, .int .i64 kd, .bool tn] 208 (0, 0))) := heap_alloc_new _ _
        have HGW : Hid (g < wr.heap.size) := blk_lt HLr.out.env.blk
        have HCM : Hid (¬ wr.heap.size = M) := Nat.ne_of_gt (blk_lt HLr.out.blk2)
        clear hfr
        cases tn
        · simp only [Bool.false_eq_true, if_false] at hfin
          subst hfin
          go_wp2_with (first
      | (go_at_call 40; refine (HT.out _ (HLr.out.alloc _).env).mono ?_; rintro e w3 ⟨rfl, he3, hf3⟩; have HC3 : Hid (w3.heap[wr.heap.size]? = some (.cells #[.string y, .int .i64 kd, .bool false] 208 (0, 0))) := (HFR.out hf3 _ (by simp) (Nat.ne_of_gt HGW.out)).trans HC0.out; have HL3 : Hid (Lo2 w g V L w3 s1.adv R cm0 52 M (opC ⟨lk, lvk, lvi, lvt, lva, lfd⟩) 50) := (HLr.out.alloc _).call he3 hf3; clear he3 hf3)
      | (go_at_call 140; refine (HS.out _ HL3.out.env).mono ?_; rintro e w4 ⟨rfl, he4, hf4⟩; have HC4 : Hid (w4.heap[wr.heap.size]? = some (.cells #[.string y, .int .i64 kd, .bool false] 208 (0, 0))) := (HFR.out hf4 _ (blk_lt HC3.out) (Nat.ne_of_gt HGW.out)).trans HC3.out; have HB4 : Hid (w.heap.size ≤ w4.heap.size ∧ R ≠ w4.heap.size ∧ M ≠ w4.heap.size) := ⟨(HL3.out.call he4 hf4).fr.size, Nat.ne_of_lt (blk_lt (HL3.out.call he4 hf4).blk), Nat.ne_of_lt (blk_lt (HL3.out.call he4 hf4).blk2)⟩; have HL4 : Hid (Lo2 w g V L (w4.alloc (.cells #[.int .i64 rk, .int .i64 rvk, .int .i64 rvi, .string rvt, .string rva, .string rfd] 50)) s2 R cm0 52 M (opC ⟨lk, lvk, lvi, lvt, lva, lfd⟩) 50) := (HL3.out.call he4 hf4).alloc _; have cq1 : ∀ o, (w4.alloc o).cell? ⟨wr.heap.size, 1, none⟩ = some (.int .i64 kd) := fun o => by { rw [World.cell?_alloc_past _ _ _ (blk_lt HC4.out), cell_of_blk HC4.out]; rfl }; have cq2 : ∀ o, (w4.alloc o).cell? ⟨wr.heap.size, 2, none⟩ = some (.bool false) := fun o => by { rw [World.cell?_alloc_past _ _ _ (blk_lt HC4.out), cell_of_blk HC4.out]; rfl }; clear he4 hf4)
      | (refine wp_ld (by rfl) 50 _ (by rfl) M (opC ⟨lk, lvk, lvi, lvt, lva, lfd⟩) 50 _ (by rfl) HL4.out.blk2 Tryd.underlying50 rfl (by kernel_rfl) ?_)
      | (refine wp_st (by rfl) 52 _ _ (by rfl) R 0 cm0 52 (cnV kd (.slice none 0 0) ⟨lk, lvk, lvi, lvt, lva, lfd⟩ ⟨rk, rvk, rvi, rvt, rva, rfd⟩) (cnC kd (.slice none 0 0) ⟨lk, lvk, lvi, lvt, lva, lfd⟩ ⟨rk, rvk, rvi, rvt, rva, rfd⟩) (by rfl) (by rfl) (by rfl) HL4.out.blk (Nat.le_of_ble_eq_true rfl) (by kernel_rfl) (by rfl) ?_; intro w9 hw9 hf9; have HL9 : Hid (Lo2 w g V L w9 s2 R (cnC kd (.slice none 0 0) ⟨lk, lvk, lvi, lvt, lva, lfd⟩ ⟨rk, rvk, rvi, rvt, rva, rfd⟩) 52 M (opC ⟨lk, lvk, lvi, lvt, lva, lfd⟩) 50) := HL4.out.st hw9 hf9; clear hw9 hf9))
          refine ret_loc R _ _ _ HL9.out.blk rfl rfl (by rfl) Tryd.underlying52 rfl (by kernel_rfl) ?_
          first | exact ⟨rfl, rfl, HL9.out.env, HL9.out.fr⟩ | exact ⟨rfl, HL9.out.env, HL9.out.fr⟩
        · simp only [if_true] at hfin
          subst hfin
          go_wp2_with (first
      | (go_at_call 40; refine (HT.out _ (HLr.out.alloc _).env).mono ?_; rintro e w3 ⟨rfl, he3, hf3⟩; have HC3 : Hid (w3.heap[wr.heap.size]? = some (.cells #[.string y, .int .i64 kd, .bool true] 208 (0, 0))) := (HFR.out hf3 _ (by simp) (Nat.ne_of_gt HGW.out)).trans HC0.out; have HL3 : Hid (Lo2 w g V L w3 s1.adv R cm0 52 M (opC ⟨lk, lvk, lvi, lvt, lva, lfd⟩) 50) := (HLr.out.alloc _).call he3 hf3; clear he3 hf3)
      | (go_at_call 140; refine (HS.out _ HL3.out.env).mono ?_; rintro e w4 ⟨rfl, he4, hf4⟩; have HC4 : Hid (w4.heap[wr.heap.size]? = some (.cells #[.string y, .int .i64 kd, .bool true] 208 (0, 0))) := (HFR.out hf4 _ (blk_lt HC3.out) (Nat.ne_of_gt HGW.out)).trans HC3.out; have HB4 : Hid (w.heap.size ≤ w4.heap.size ∧ R ≠ w4.heap.size ∧ M ≠ w4.heap.size) := ⟨(HL3.out.call he4 hf4).fr.size, Nat.ne_of_lt (blk_lt (HL3.out.call he4 hf4).blk), Nat.ne_of_lt (blk_lt (HL3.out.call he4 hf4).blk2)⟩; have HL4 : Hid (Lo2 w g V L (w4.alloc (.cells #[.int .i64 rk, .int .i64 rvk, .int .i64 rvi, .string rvt, .string rva, .string rfd] 50)) s2 R cm0 52 M (opC ⟨lk, lvk, lvi, lvt, lva, lfd⟩) 50) := (HL3.out.call he4 hf4).alloc _; have cq1 : ∀ o, (w4.alloc o).cell? ⟨wr.heap.size, 1, none⟩ = some (.int .i64 kd) := fun o => by { rw [World.cell?_alloc_past _ _ _ (blk_lt HC4.out), cell_of_blk HC4.out]; rfl }; have cq2 : ∀ o, (w4.alloc o).cell? ⟨wr.heap.size, 2, none⟩ = some (.bool true) := fun o => by { rw [World.cell?_alloc_past _ _ _ (blk_lt HC4.out), cell_of_blk HC4.out]; rfl }; clear he4 hf4)
      | (refine wp_ld (by rfl) 50 _ (by rfl) M (opC ⟨rk, rvk, rvi, rvt, rva, rfd⟩) 50 _ (by rfl) HL8.out.blk2 Tryd.underlying50 rfl (by kernel_rfl) ?_)
      | (refine wp_ld (by rfl) 50 _ (by rfl) w4.heap.size (opC ⟨lk, lvk, lvi, lvt, lva, lfd⟩) 50 _ (by rfl) HN8.out Tryd.underlying50 rfl (by kernel_rfl) ?_)
      | (refine wp_ld (by rfl) 50 _ (by rfl) M (opC ⟨lk, lvk, lvi, lvt, lva, lfd⟩) 50 _ (by rfl) HL4.out.blk2 Tryd.underlying50 rfl (by kernel_rfl) ?_)
      | (refine wp_st (by rfl) 52 _ _ (by rfl) R 0 cm0 52 (cnV kd (.slice none 0 0) ⟨rk, rvk, rvi, rvt, rva, rfd⟩ ⟨lk, lvk, lvi, lvt, lva, lfd⟩) (cnC kd (.slice none 0 0) ⟨rk, rvk, rvi, rvt, rva, rfd⟩ ⟨lk, lvk, lvi, lvt, lva, lfd⟩) (by rfl) (by rfl) (by rfl) HL8.out.blk (Nat.le_of_ble_eq_true rfl) (by kernel_rfl) (by rfl) ?_; intro w9 hw9 hf9; have HL9 : Hid (Lo2 w g V L w9 s2 R (cnC kd (.slice none 0 0) ⟨rk, rvk, rvi, rvt, rva, rfd⟩ ⟨lk, lvk, lvi, lvt, lva, lfd⟩) 52 M (opC ⟨rk, rvk, rvi, rvt, rva, rfd⟩) 50) := HL8.out.st hw9 hf9; clear hw9 hf9)
      | (refine wp_st (by rfl) 50 _ _ (by rfl) w4.heap.size 0 (opC ⟨rk, rvk, rvi, rvt, rva, rfd⟩) 50 (opV ⟨lk, lvk, lvi, lvt, lva, lfd⟩) (opC ⟨lk, lvk, lvi, lvt, lva, lfd⟩) (by rfl) (by rfl) (by rfl) HN7.out (Nat.le_of_ble_eq_true rfl) (by kernel_rfl) (by rfl) ?_; intro w8 hw8 hf8; have HN8 : Hid (w8.heap[w4.heap.size]? = some (.cells (opC ⟨lk, lvk, lvi, lvt, lva, lfd⟩).toArray 50 (0, 0))) := hw8; have HL8 : Hid (Lo2 w g V L w8 s2 R cm0 52 M (opC ⟨rk, rvk, rvi, rvt, rva, rfd⟩) 50) := HL7.out.apart hf8 HB4.out.1 HB4.out.2.1 HB4.out.2.2; have HC8 : Hid (w8.heap[wr.heap.size]? = some (.cells #[.string y, .int .i64 kd, .bool true] 208 (0, 0))) := (hf8.block _ (blk_lt HC7.out) (by { show ¬ _ = _; have := blk_lt HC4.out; omega })).trans HC7.out; have cq8 : w8.cell? ⟨wr.heap.size, 1, none⟩ = some (.int .i64 kd) := by { rw [cell_of_blk HC8.out]; rfl }; clear hw8 hf8)
      | (refine wp_st (by rfl) 50 _ _ (by rfl) M 0 (opC ⟨lk, lvk, lvi, lvt, lva, lfd⟩) 50 (opV ⟨rk, rvk, rvi, rvt, rva, rfd⟩) (opC ⟨rk, rvk, rvi, rvt, rva, rfd⟩) (by rfl) (by rfl) (by rfl) HL4.out.blk2 (Nat.le_of_ble_eq_true rfl) (by kernel_rfl) (by rfl) ?_; intro w7 hw7 hf7; have HL7 : Hid (Lo2 w g V L w7 s2 R cm0 52 M (opC ⟨rk, rvk, rvi, rvt, rva, rfd⟩) 50) := HL4.out.st2 hw7 hf7; have HN7 : Hid (w7.heap[w4.heap.size]? = some (.cells (opC ⟨rk, rvk, rvi, rvt, rva, rfd⟩).toArray 50 (0, 0))) := (hf7.block _ (by simp) (fun c => HB4.out.2.2 c.symm)).trans (heap_alloc_new _ _); have HC7 : Hid (w7.heap[wr.heap.size]? = some (.cells #[.string y, .int .i64 kd, .bool true] 208 (0, 0))) := (hf7.block _ (by { have := blk_lt HC4.out; simp; omega }) HCM.out).trans ((Below.heap_alloc _ _ _ (blk_lt HC4.out)).trans HC4.out); clear hw7 hf7))
          refine ret_loc R _ _ _ HL9.out.blk rfl rfl (by rfl) Tryd.underlying52 rfl (by kernel_rfl) ?_
          first | exact ⟨rfl, rfl, HL9.out.env, HL9.out.fr⟩ | exact ⟨rfl, HL9.out.env, HL9.out.fr⟩
    · obtain rfl : k = 6 := by omega
      have hfin : (cn0, fal L s1) = F := HF.out
      subst hfin
      clear HF HIX
      go_wp2_with (first
        | (go_at_call 43; refine (fail_any _ g V L s1 HLr.out.env).mono ?_; rintro e w3 ⟨rfl, he3, hf3⟩; have HL3 : Hid (Lo2 w g V L w3 (fal L s1) R cm0 52 M (opC ⟨lk, lvk, lvi, lvt, lva, lfd⟩) 50) := HLr.out.call he3 hf3; clear he3 hf3)
        | (refine wp_st (by rfl) 52 _ _ (by rfl) R 0 cm0 52 (cnV 0 (.slice none 0 0) opd0 opd0) (cnC 0 (.slice none 0 0) opd0 opd0) (by rfl) (by rfl) (by rfl) HL3.out.blk (Nat.le_of_ble_eq_true rfl) (by kernel_rfl) (by rfl) ?_; intro w9 hw9 hf9; have HL9 : Hid (Lo2 w g V L w9 (fal L s1) R (cnC 0 (.slice none 0 0) opd0 opd0) 52 M (opC ⟨lk, lvk, lvi, lvt, lva, lfd⟩) 50) := HL3.out.st hw9 hf9; clear hw9 hf9))
      refine ret_loc R _ _ _ HL9.out.blk rfl rfl (by rfl) Tryd.underlying52 rfl (by kernel_rfl) ?_
      exact ⟨rfl, rfl, HL9.out.env, HL9.out.fr⟩
end Go.Proofs.YtnlmkdncifijlaaDoor
