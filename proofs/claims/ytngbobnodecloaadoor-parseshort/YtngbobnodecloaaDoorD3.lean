/-
  What ends too early is told so; what has something behind it that is none, too: the walk.
-/
import Derived.Test.YtngbobnodecloaaDoorD2
namespace Go.Proofs.YtngbobnodecloaaDoor
open Go.ChangeShapes Go.WideShapes Go.ChangeAt Go.RowKit Go.Maps
set_option linter.unusedVariables false
set_option linter.unusedSimpArgs false
set_option maxRecDepth 20000
def shortT : List UInt8 := [116, 121, 112, 101, 32, 116, 32, 123, 32, 97, 32, 58, 32, 105, 110, 116, 32, 44, 32, 98, 32, 58, 32, 116, 101, 120, 116, 32, 125, 32, 114, 117, 108, 101, 32, 114, 32, 123, 32, 119, 104, 101, 110, 32, 120, 32, 58, 32, 116, 32, 91, 32, 97, 32, 61, 32, 49, 32, 93, 32, 111, 118, 101, 114, 32, 116, 105, 109, 101, 32, 53, 32, 59, 32, 110, 111, 116, 32, 121, 32, 58, 32, 116, 32, 59, 32, 109, 97, 110, 121, 32, 50, 32, 111, 102, 32, 97, 32, 122, 32, 58, 32, 116, 32, 119, 105, 116, 104, 105, 110, 32, 57, 32, 59, 32, 119, 104, 101, 114, 101, 32, 120, 32, 98, 101, 102, 111, 114, 101, 32, 40, 32, 49, 32, 44, 32, 97, 110, 121, 32, 41, 32, 111, 114, 32, 109, 101, 101, 116, 115, 32, 121, 32, 59, 32, 101, 109, 105, 116, 32, 116, 32, 40, 32, 49, 32, 44, 32, 120, 32, 46, 32, 98, 32, 41, 32, 59, 32, 125]
def semi : Tk := ⟨4, txt [59], 0⟩
def shortOk : Bool :=
  match cutF 200 (skd shortT) with
  | none => false
  | some ts => decide (ts.length < 200) && decide (11 < ts.length) && decide ((prs (ts ++ [semi])).2.2 = 4) && decide ((prs (ts ++ [semi])).2.1 = ts.length) &&
      ((List.range (ts.length + 1)).all fun k => if k = 0 ∨ k = 11 ∨ k = ts.length then decide ((prs (ts.take k)).2.2 = 0) else decide ((prs (ts.take k)).2.2 = 5) && decide ((prs (ts.take k)).2.1 = k))
theorem short_all : shortOk = true := by kernel_rfl
theorem short_at : ∃ ts, cutF 200 (skd shortT) = some ts ∧ ts.length < 200 ∧ 11 < ts.length ∧ ((prs (ts ++ [semi])).2.2 = 4 ∧ (prs (ts ++ [semi])).2.1 = ts.length) ∧ ∀ k, k ≤ ts.length → ((k = 0 ∨ k = 11 ∨ k = ts.length) → (prs (ts.take k)).2.2 = 0) ∧ (¬ (k = 0 ∨ k = 11 ∨ k = ts.length) → (prs (ts.take k)).2.2 = 5 ∧ (prs (ts.take k)).2.1 = k) := by
  have h2 := short_all
  unfold shortOk at h2
  split at h2
  · cases h2
  · rename_i ts ht
    simp only [Bool.and_eq_true, decide_eq_true_eq] at h2
    refine ⟨ts, ht, h2.1.1.1.1, h2.1.1.1.2, ⟨h2.1.1.2, h2.1.2⟩, fun k hk => ?_⟩
    have h3 := List.all_eq_true.1 h2.2 k (by simp; omega)
    refine ⟨fun c => ?_, fun c => ?_⟩
    · rw [if_pos c] at h3
      simpa using h3
    · rw [if_neg c] at h3
      simpa using h3
theorem TokensAt.take {w : World} {p : Option Addr} {m cap : Nat} {ts : List Tk} (h : TokensAt w (.slice p m cap) ts) (k : Nat) (hk : k ≤ ts.length) : TokensAt w (.slice p k cap) (ts.take k) := by
  obtain ⟨p', cap', e, h1, h2, h3⟩ := h
  simp only [Value.slice.injEq] at e
  obtain ⟨rfl, rfl, rfl⟩ := e
  have hl : (ts.take k).length = k := by simp; omega
  refine ⟨p, cap, by rw [hl], by omega, h2, fun h0 => ?_⟩
  obtain ⟨g, off, e, hc⟩ := h3 (by omega)
  refine ⟨g, off, e, fun j hj => ?_⟩
  have := hc j (by omega)
  simpa using this
theorem wp_copy {ops : Array Oper} {rest : List Oper} {o : Oper} {a : Act} {w : World} {Q : Exit → Act → World → Prop} (hgd : o.guard = none) (s x : Operand) (ho : o.op = .call { callee := .builtin .append, args := #[s, x], argTypes := #[23, 23] }) (v : Value) (l : List Tk) (hs : a.eval s = .slice none 0 0) (hx : a.eval x = v) (hd : TokensAt w v l) (hb : l.length * 32 ≤ 140737488355328)
    (h : ∀ v' w', w'.ownsRow w.heap.size 53 3 v' l.length (l.flatMap encT) → Below w.heap.size w w' → wpList Tryd.prog ops Q rest (a.put o.dst v') w') : wpList Tryd.prog ops Q (o :: rest) a w := by
  refine wpList_plain hgd fun K hK => ?_
  obtain ⟨v', w', hr, h2, h3⟩ := run_copy w o.type hd hb
  unfold Oper.wp execOp
  simp only [ho, resolve, invoke, builtin, Sem.run_bind, Sem.run_pure, Result.andThen_ok, List.map_toArray, List.map_cons, List.map_nil, hs, hx, hr]
  exact hK _ _ (h v' w' h2 h3)
theorem own_k (p : Option Addr) (m k cap : Nat) : (Value.slice p m cap).ownBlock = (Value.slice p k cap).ownBlock := by cases p <;> rfl
theorem toks_semi {w : World} {v : Value} {ts : List Tk} {m : Nat} (h : w.ownsRow 0 53 3 v (m + 1) (ts.flatMap encT ++ encT semi)) (hm : ts.length = m) : TokensAt w v (ts ++ [semi]) := by
  have e : ts.flatMap encT ++ encT semi = (ts ++ [semi]).flatMap encT := by rw [List.flatMap_append]; simp
  have l : (ts ++ [semi]).length = m + 1 := by simp [hm]
  rw [e, ← l] at h
  exact toks_own h
set_option maxHeartbeats 8000000 in
theorem short_walk (n : Int) (w : World) (hn : -9223372036854775808 ≤ n ∧ n ≤ 9223372036854775807) (hB : Tbs w) :
    Calls Tryd.prog 8 #[.int .i64 n] w fun e w' => e = .returned (.bool true) ∧ Below w.heap.size w w' := by
  obtain ⟨ts, h1, h2, h3, h4, h5⟩ := short_at
  have HC : Hid (∀ S W, S = txt shortT → Marks W → Calls Tryd.prog 18 #[.string S] W fun e w' => ∃ p cap, e = .returned (.tuple #[.slice p ts.length cap, .int .i64 0, .int .i64 0]) ∧ TokensAt w' (.slice p ts.length cap) ts ∧ Below W.heap.size W w') := fun S W hS hW => cut_of S shortT hS ts h1 (by decide) (by omega) W hW
  have HPA : Hid (∀ W V L, TokensAt W V L → (∀ b, V.ownBlock = some b → b < W.heap.size) → Tbs W → Calls Tryd.prog 11 #[V] W (APost W (prs L))) := fun W V L hT hl hW => parse_any W V L hT hl hW
  obtain ⟨m, hm⟩ : ∃ m, ts.length = m := ⟨_, rfl⟩
  obtain ⟨k, hk, hp⟩ := picked_const n ((m : Int) + 1) (m + 1) (by omega) hn (by omega) (by omega)
  have HP : Hid (∀ W, Calls Tryd.prog 15 #[.int .i64 n, .int .i64 ((m : Int) + 1)] W fun e w' => e = .returned (.int .i64 k) ∧ w' = W) := hp
  have h6 := h5 k (by omega)
  have HL1 : Hid (ts.length = m) := hm
  have HL2 : Hid ((ts.take k).length = k) := by show (ts.take k).length = k; simp; omega
  obtain ⟨A1, hA1⟩ : ∃ A1, prs (ts.take k) = A1 := ⟨_, rfl⟩
  obtain ⟨A2, hA2⟩ : ∃ A2, prs (ts ++ [semi]) = A2 := ⟨_, rfl⟩
  rw [hA1] at h6
  rw [hA2] at h4
  obtain ⟨b1, i1, e1⟩ := A1
  obtain ⟨b2, i2, e2⟩ := A2
  simp only [hm] at h4 h6 HC
  obtain ⟨rfl, h4b⟩ := h4
  have h4c := h4b.symm
  subst h4c
  clear h4b
  have HA1 : Hid (prs (ts.take k) = (b1, i1, e1)) := hA1
  have HA2 : Hid (prs (ts ++ [semi]) = (b2, m, 4)) := hA2
  have HB : Hid (Tbs w) := hB
  obtain ⟨i0, a1, a2, a3, a4⟩ := info_parts infoT
  have HI : Hid (Tryd.prog.info? 53 = some i0 ∧ i0.zero = some (.agg #[.int .i64 0, .string ByteArray.empty, .int .i64 0]) ∧ i0.size = 3 ∧ i0.bytes = 32) := ⟨a1, a2, a3, a4⟩
  have hm1 : (m : Int) ≤ 200 := by omega
  have hm2 : ((m : Int) == 0) = false := by simp; omega
  have hk1 : (k : Int) ≤ (m : Int) := by omega
  have HKM : Hid (k ≤ m ∧ m < 200 ∧ 11 < m) := ⟨by omega, by omega, by omega⟩
  have H6 : Hid (((k = 0 ∨ k = 11 ∨ k = m) → e1 = 0) ∧ (¬ (k = 0 ∨ k = 11 ∨ k = m) → e1 = 5 ∧ i1 = k)) := h6
  have HP1 : Hid (∀ W p cap, TokensAt W (.slice p k cap) (ts.take k) → (∀ b, (Value.slice p k cap).ownBlock = some b → b < W.heap.size) → Tbs W → Calls Tryd.prog 11 #[.slice p k cap] W (APost W (b1, i1, e1))) := fun W p cap hT hl hW => by
    have := HPA.out W _ _ hT hl hW
    rw [hA1] at this
    exact this
  have HP2 : Hid (∀ W p cap, TokensAt W (.slice p (m + 1) cap) (ts ++ [semi]) → (∀ b, (Value.slice p (m + 1) cap).ownBlock = some b → b < W.heap.size) → Tbs W → Calls Tryd.prog 11 #[.slice p (m + 1) cap] W (APost W (b2, m, 4))) := fun W p cap hT hl hW => by
    have := HPA.out W _ _ hT hl hW
    rw [hA2] at this
    exact this
  have HBY : Hid (ts.length * 32 ≤ 140737488355328) := by have := HL1.out; show ts.length * 32 ≤ _; omega
  clear hp h1 h2 h3 h5 h6 hA1 hA2 hB a1 a2 a3 a4 hm
  go_enter Tryd.func8, Tryd.ntmps8
  go_wp2_with (first
    | (go_at_call 18; refine (HC.out _ _ (by kernel_rfl) HB.out.mr).mono ?_; rintro e w1 ⟨p1, cap1, rfl, ht1, hb1⟩; have HT1 : Hid (TokensAt w1 (.slice p1 m cap1) ts) := ht1; have HB1 : Hid (Below w.heap.size w w1) := hb1; obtain ⟨hcap1, hcap2⟩ : m ≤ cap1 ∧ cap1 ≤ maxLen := by { obtain ⟨_, _, e, q1, q2, _⟩ := ht1; simp only [Value.slice.injEq] at e; obtain ⟨_, rfl, rfl⟩ := e; exact ⟨q1, q2⟩ }; have hk2 : (k : Int) ≤ (cap1 : Int) := by { omega }; have hk3 : ¬ (cap1 : Int) < (k : Int) := by { omega }; clear ht1 hb1)
    | (go_at_call 15; refine (HP.out _).mono ?_; rintro e w1 ⟨rfl, rfl⟩)
    | (at_builtin; refine wp_copy (by rfl) _ _ (by rfl) (.slice p1 m cap1) ts (by rfl) (by rfl) (HT2.out _) HBY.out ?_; intro v4 w4 hown hb4; obtain ⟨p4, cap4, hv4⟩ := own_shape hown; rw [HL1.out] at hv4 hown; subst hv4; have HOB : Hid (∀ q, (Value.slice p4 m cap4).ownBlock = some q → w.heap.size ≤ q) := fun q hq => by { have h9 := (own_block_some hown hq).1; have := HB2.out.size; simp at h9; omega }; have HO4 : Hid (w4.ownsRow 0 53 3 (.slice p4 m cap4) m (ts.flatMap encT)) := owns_base hown (fun _ _ => Nat.zero_le _); have HB4 : Hid (Below w.heap.size w w4) := below_trans (HB2.out.alloc HB2.out.size _) hb4 (by { have := HB2.out.size; simp; omega }); clear hown hb4)
    | (at_builtin; refine wpList_append_own_at _ (by rfl) _ _ 23 (by rfl) 0 53 i0 (.agg #[.int .i64 0, .string ByteArray.empty, .int .i64 0]) 3 32 Tryd.underlying23 HI.out.1 HI.out.2.1 HI.out.2.2.1 HI.out.2.2.2 rfl (by omega) (.slice p4 m cap4) m (ts.flatMap encT) (by rfl) (HO4.out.alloc _) ⟨w4.heap.size, 0, none⟩ 1 1 (encT semi) (by rfl) (by rfl) (World.news_of_block (heap_alloc_new _ _)) (by simp [encT, Value.oneCell', semi]) (by { have := HKM.out; unfold maxLen; omega }) (by { have := HKM.out; omega }) (Nat.zero_le _) ?_; intro v5 w5 hown hgb hiff hat; obtain ⟨p5, cap5, hv5⟩ := own_shape hown; subst hv5; have HT5 : Hid (TokensAt w5 (.slice p5 (m + 1) cap5) (ts ++ [semi])) := toks_semi hown HL1.out; have HB5 : Hid (Below w.heap.size w w5) := (HB4.out.alloc HB4.out.size _).grown hgb (by { have := HB4.out.size; simp; omega }) (fun q hq => HOB.out q hq); clear hown hgb hiff hat)
    | (go_at_call 11; refine (HP2.out _ _ _ HT5.out (toks_low HT5.out (by simp)) (HB.out.below HB5.out)).mono ?_; rintro e w6 ⟨q3, d3, q4, d4, rfl, hh6, hb6⟩; have HB6 : Hid (Below w.heap.size w w6) := below_trans HB5.out hb6 HB5.out.size; clear hh6 hb6)
    | (go_at_call 11; refine (HP1.out _ _ _ (HT1.out.take k (by { have := HL1.out; have := HKM.out; omega })) (fun b hb => toks_low HT1.out (by { have := HL1.out; have := HKM.out; omega }) b ((own_k p1 m k cap1).trans hb)) (HB.out.below HB1.out)).mono ?_; rintro e w2 ⟨q1, d1, q2, d2, rfl, hh2, hb2⟩; have HB2 : Hid (Below w.heap.size w w2) := below_trans HB1.out hb2 HB1.out.size; have HT2 : Hid (∀ o, TokensAt (w2.alloc o) (.slice p1 m cap1) ts) := fun o => (HT1.out.below hb2).below (below_new _ _); clear hh2 hb2))
  all_goals
    go_ret
    refine ⟨ret_bool ?_, HB6.out.alloc HB6.out.size _⟩
    have h6 := H6.out
    have hkm := HKM.out
    first | rfl | (simp_all; done) | (simp_all <;> omega) | (have c11 : ¬ k = 11 := by omega) <;> (by_cases c : k = m) <;> simp_all <;> omega
end Go.Proofs.YtngbobnodecloaaDoor
