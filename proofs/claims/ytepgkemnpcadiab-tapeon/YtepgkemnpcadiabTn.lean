/-
  Rows of acts; what is recovered.
-/
import Derived.Test.YtepgkemnpcadiabTm
namespace Go.Proofs.Ytepgkemnpcadiab
open Go.ChangeShapes Go.WideShapes Go.ChangeAt Go.RowKit Go.Maps
set_option linter.unusedVariables false
set_option linter.unusedSimpArgs false
set_option maxRecDepth 20000
/-- A row of acts of the call's own. -/
def AO (w : World) (B : Nat) (v : Value) (La : List Ac) : Prop := ∃ ps : List (Ac × Value), ps.map (·.1) = La ∧ w.ownsRow B 46 10 v ps.length (ps.flatMap fun x => acC x.1 x.2) ∧ ∀ x ∈ ps, VO w B x.2 x.1.o.l
theorem AO.nil (w : World) (B : Nat) : AO w B (.slice none 0 0) [] := ⟨[], rfl, World.ownsRow_nil _ _ _ _, fun x hx => by cases hx⟩
theorem AO.below {w w' : World} {B : Nat} {v : Value} {La : List Ac} (h : AO w B v La) (b : Below w.heap.size w w') : AO w' B v La := by
  obtain ⟨ps, h1, h2, h3⟩ := h
  exact ⟨ps, h1, owns_same h2 fun i hi => b.block i (own_block_some h2 hi).2, fun x hx => (h3 x hx).kept fun i _ hi => b.block i hi⟩
theorem AO.weak {w : World} {B B' : Nat} {v : Value} {La : List Ac} (h : AO w B v La) (hb : B' ≤ B) : AO w B' v La := by
  obtain ⟨ps, h1, h2, h3⟩ := h
  refine ⟨ps, h1, ?_, fun x hx => (h3 x hx).weak hb⟩
  refine ⟨h2.1, ?_⟩
  rcases h2.2 with h4 | ⟨g, cap, cur, rfl, h4, h5⟩
  · exact Or.inl h4
  · exact Or.inr ⟨g, cap, cur, rfl, by omega, h5⟩
theorem AO.frLt {w w' : World} {B b : Nat} {v : Value} {La : List Ac} (h : AO w B v La) (hf : Fr (fun i => i = b) w w') (hb : b < B) : AO w' B v La := by
  obtain ⟨ps, h1, h2, h3⟩ := h
  exact ⟨ps, h1, owns_same h2 fun i hi => hf.block i (own_block_some h2 hi).2 (by have := (own_block_some h2 hi).1; omega), fun x hx => (h3 x hx).kept fun i hb' hi => hf.block i hi (by omega)⟩
theorem AO.shape {w : World} {B : Nat} {v : Value} {La : List Ac} (h : AO w B v La) : ∃ p cap, v = .slice p La.length cap := by
  obtain ⟨ps, rfl, h2, _⟩ := h
  rcases h2.2 with ⟨h3, h4⟩ | ⟨g, cap, cur, h3, _⟩
  · exact ⟨none, 0, by rw [h3, List.length_map, h4]⟩
  · exact ⟨some ⟨g, 0, none⟩, cap, by rw [h3, List.length_map]⟩
theorem infoAc : (Try.prog.info? 46).map (fun i => (i.zero, i.size, i.bytes)) = some (some (.agg #[.int .i64 0, .int .i64 0, .string ByteArray.empty, .int .i64 0, .int .i64 0, .slice none 0 0, .int .i64 0, .bool false, .int .i64 0, .string ByteArray.empty]), 10, 112) := by kernel_rfl
theorem own_neA {w : World} {e z B n : Nat} {v : Value} {xs : List Value} (hv : w.ownsRow B e z v n xs) {C : Nat} {u : Value} {l : List Vl} (h : VO w C u l) (he : e ≠ 73) {i : Nat} (hi : u.ownBlock = some i) : some i ≠ v.ownBlock := fun c => by
  rcases hv.2 with ⟨rfl, _⟩ | ⟨q, cap, cur, rfl, _, h2, _⟩
  · simp [Value.ownBlock] at c
  · exact own_ne h h2 he (by rw [hi, c]; rfl)
/-- An act behind a row. -/
theorem wp_pushA {ops : Array Oper} {rest : List Oper} {o : Oper} {a : Act} {Q : Exit → Act → World → Prop} (hgd : o.guard = none) (s x : Operand) (ho : o.op = .call { callee := .builtin .append, args := #[s, x], argTypes := #[23, 23] }) (W : World) (B : Nat) (v : Value) (La : List Ac) (hs : a.eval s = v) (h : AO W B v La)
    {gx : Nat} (hx : a.eval x = .slice (some ⟨gx, 0, none⟩) 1 1) (hgx : gx = W.heap.size) (c : Ac) (u : Value) (hu : VO W B u c.o.l) (hn : La.length < 10000000) (hB : B ≤ W.heap.size)
    (k : ∀ v' w', AO w' B v' (La ++ [c]) → Below B W w' → wpList Try.prog ops Q rest (a.put o.dst v') w') :
    wpList Try.prog ops Q (o :: rest) a (W.alloc (.cells (acC c u).toArray 46)) := by
  subst hgx
  obtain ⟨ps, hps, h2, h3⟩ := h
  have hlen : ps.length = La.length := by rw [← hps]; simp
  obtain ⟨p0, n0, c0, hsh⟩ := hu.shape3
  obtain ⟨i0, a1, a2, a3, a4⟩ := info_parts infoAc
  refine wpList_append_own_at _ hgd s x 23 ho B 46 i0 _ 10 112 Try.underlying23 a1 a2 a3 a4 rfl (by omega) v ps.length _ hs (World.ownsRow.alloc h2 _) ⟨W.heap.size, 0, none⟩ 1 1 (acC c u) hx (by rfl) (fun j u' hj => by rw [Addr.add_mid, Nat.zero_add]; exact cell_new rfl (by simpa using hj)) (by
    intro y hy
    subst hsh
    simp [acC] at hy
    rcases hy with rfl | rfl | rfl | rfl | rfl | rfl | rfl | rfl | rfl | rfl <;> rfl) (by unfold maxLen; omega) (by omega) (by simp; omega) ?_
  intro v' w' hown hgrow _ hat
  have ha := World.grownBy_alloc W (.cells (acC c u).toArray 46) v.ownBlock
  have hg : W.grownBy w' v.ownBlock := ⟨hgrow.os.trans ha.os, hgrow.tape.trans ha.tape, hgrow.output.trans ha.output, Nat.le_trans ha.size hgrow.size, fun k hk hne => (hgrow.block k (Nat.lt_of_lt_of_le hk ha.size) hne).trans (ha.block k hk hne)⟩
  refine k v' w' ⟨ps ++ [(c, u)], by simp [hps], by rw [List.length_append, List.flatMap_append]; simpa using hown, fun y hy => ?_⟩ ((Below.refl B W).grown hg hB (fun k hk => (World.ownsRow.lt h2 k hk).1))
  have key : ∀ (y : Ac × Value), VO W B y.2 y.1.o.l → VO w' B y.2 y.1.o.l := fun y hy => hy.same fun i hi => hg.block i (hy.lo hi).2 (own_neA h2 hy (by decide) hi)
  rcases List.mem_append.1 hy with hy | hy
  · exact key y (h3 y hy)
  · simp at hy
    subst hy
    exact key (c, u) hu
theorem whA_le {l : List UInt8} (h : (whA l).2.2 = true) : 2 ≤ (whA l).2.1 ∧ (whA l).2.1 ≤ l.length := by
  match l with
  | [] => cases h
  | [_] => cases h
  | x :: y :: r =>
    have e : whA (x :: y :: r) = if r.length < 256 * x.toNat + y.toNat then (zac, 0, false) else ((dcA (r.take (256 * x.toNat + y.toNat))).1, 256 * x.toNat + y.toNat + 2, (dcA (r.take (256 * x.toNat + y.toNat))).2) := rfl
    rw [e] at h ⊢
    by_cases c : r.length < 256 * x.toNat + y.toNat
    · rw [if_pos c] at h; cases h
    · rw [if_neg c]
      simp only [List.length_cons]
      omega
/-- What is recovered, and of how many bytes. -/
def rcA (l : List UInt8) : List Ac × Nat := if h : (whA l).2.2 = true then ((whA l).1 :: (rcA (l.drop (whA l).2.1)).1, (whA l).2.1 + (rcA (l.drop (whA l).2.1)).2) else ([], 0)
  termination_by l.length
  decreasing_by
    have := whA_le h
    simp only [List.length_drop]
    omega
theorem rcA_no {l : List UInt8} (h : (whA l).2.2 = false) : rcA l = ([], 0) := by rw [rcA, dif_neg (by rw [h]; decide)]
theorem rcA_ok {l : List UInt8} (h : (whA l).2.2 = true) : rcA l = ((whA l).1 :: (rcA (l.drop (whA l).2.1)).1, (whA l).2.1 + (rcA (l.drop (whA l).2.1)).2) := by
  conv => lhs; rw [rcA]
  rw [dif_pos h]
theorem meas_e {n e z : Nat} (h1 : 1 ≤ z) (h2 : e + z ≤ n) : n + 1 - (intOf (.int .i64 ((e : Int) + (z : Int)))).toNat < n + 1 - (intOf (.int .i64 (e : Int))).toNat := by
  show n + 1 - ((e : Int) + (z : Int)).toNat < n + 1 - ((e : Int)).toNat
  omega
theorem ret3t {P : Program} {fn : Func} {p q r : Tmp} {ty : TypeId} {a : Act} {w : World} {Q : Ending → World → Prop} (R : Nat) (cs : List Value) (T : TypeId) (d : TypeDesc) (hb : w.heap[R]? = some (.cells cs.toArray T (0, 0))) (h : fn.results = #[.tmp p, .cell q ty, .tmp r]) (hd : a.defers = [])
    (hp : a.tmps.getD q undef = .pointer (some ⟨R, 0, none⟩)) (hu : P.underlying ty = some d) (hr : d.isRow = true) (hi : (P.info? ty).map (·.size) = some cs.length) (hq : Q (.returned (.tuple #[a.tmps.getD p undef, .agg cs.toArray, a.tmps.getD r undef])) w) : bodyPost P fn Q .ret a w := by
  refine bodyPost_ret ?_ hd hq
  have hp' : a.tmps[q]?.getD undef = .pointer (some ⟨R, 0, none⟩) := by simpa using hp
  simp [results, h, hp', asAddr, run_loadVar_mid w R 0 ty cs d (range_blk hb) hu hr hi]
def trc (l : List UInt8) (s : Int) : List Ac × List UInt8 × Int × Int := if tmay l.length s = true then ((rcA l).1, l.take (rcA l).2, (if s ≤ ((rcA l).2 : Int) then s else ((rcA l).2 : Int)), 0) else ([], [], 0, 9)
theorem twhole_any (l : List UInt8) (p : Option Addr) (n cap : Nat) (w : World) (hn : l.length = n) (hv : BA w (.slice p n cap) l) :
    Calls Try.prog 25 #[.slice p n cap] w fun e w' => ∃ u, e = .returned (.tuple #[acv (whA l).1 u, .int .i64 (whA l).2.1, .bool (whA l).2.2]) ∧ VO w' w.heap.size u (whA l).1.o.l ∧ Below w.heap.size w w' := by
  match l, hn, hv with
  | [], hn, hv =>
    refine (twh0_any [] p n cap w hn (by simp at hn; omega)).mono ?_
    rintro e w2 ⟨rfl, hb⟩
    exact ⟨.slice none 0 0, rfl, VO.nil _ _, hb⟩
  | [x], hn, hv =>
    refine (twh0_any [x] p n cap w hn (by simp at hn; omega)).mono ?_
    rintro e w2 ⟨rfl, hb⟩
    exact ⟨.slice none 0 0, rfl, VO.nil _ _, hb⟩
  | x :: y :: r, hn, hv =>
    obtain ⟨p', c', e, q1, q2, hx⟩ := id hv
    simp at e
    obtain ⟨rfl, -, rfl⟩ := e
    obtain ⟨g, off, hp, _⟩ := hx (by simp)
    subst hp
    simp at hn
    subst hn
    exact twh2_any x y r g off r.length _ w rfl hv
theorem BA.dropO {w : World} {p : Option Addr} {n cap e : Nat} {l : List UInt8} (h : BA w (.slice p n cap) l) (he : e ≤ n) : BA w (.slice (p.map (fun x => x.add e)) (n - e) (cap - e)) (l.drop e) := by
  obtain ⟨p', c', q, h1, h2, h3⟩ := h
  simp at q
  obtain ⟨rfl, rfl, rfl⟩ := q
  refine ⟨_, cap - e, by rw [List.length_drop], by rw [List.length_drop]; omega, by omega, fun h0 => ?_⟩
  rw [List.length_drop] at h0
  obtain ⟨g', off', hp, hx⟩ := h3 (by omega)
  subst hp
  refine ⟨g', off' + e, by simp [Addr.add_mid], fun j hj => ?_⟩
  rw [List.length_drop] at hj
  obtain ⟨q1, q2⟩ := hx (e + j) (by omega)
  refine ⟨q1, ?_⟩
  rw [show off' + e + j = off' + (e + j) by omega, q2]
  simp
set_option maxHeartbeats 16000000 in
theorem trec_any (l : List UInt8) (v : Value) (s : Int) (w : World) (hv : BA w v l) :
    Calls Try.prog 12 #[tpv v s] w fun e w' => ∃ r v', e = .returned (.tuple #[r, tpv v' (trc l s).2.2.1, .int .i64 (trc l s).2.2.2]) ∧ AO w' w.heap.size r (trc l s).1 ∧ BO w' w.heap.size v' (trc l s).2.1 ∧ Below w.heap.size w w' := by
  have HV0 := hid hv
  obtain ⟨p, cap, hsh, hcap, hmax, hx0⟩ := hv
  subst hsh
  obtain ⟨n, hn⟩ : ∃ n, l.length = n := ⟨_, rfl⟩
  have HM := hid (fun W => mayBe_any n p cap s W (by omega))
  have HN := hid hn
  have HX0 : Hid (p = none → n = 0) := fun hp => by
    by_cases h0 : 0 < l.length
    · obtain ⟨g, off, hp', _⟩ := hx0 h0
      rw [hp] at hp'
      cases hp'
    · omega
  have HX1 : Hid (0 < n → ∃ g off, p = some ⟨g, off, none⟩) := fun h0 => by
    obtain ⟨g, off, hp', _⟩ := hx0 (by omega)
    exact ⟨g, off, hp'⟩
  unfold trc tpv
  rw [hn] at HV0 ⊢
  obtain ⟨m, hm⟩ : ∃ m, tmay n s = m := ⟨_, rfl⟩
  rw [hm] at HM ⊢
  have HMM := hid hm
  have hmx : (cap : Int) ≤ 9223372036854775807 := by unfold maxLen at hmax; omega
  have hcp : (n : Int) ≤ (cap : Int) := by omega
  obtain ⟨⟨ra, rn⟩, hr⟩ : ∃ x, rcA l = x := ⟨_, rfl⟩
  rw [hr]
  simp only
  have HR := hid hr
  obtain ⟨s', hs'⟩ : ∃ s', (if s ≤ (rn : Int) then s else (rn : Int)) = s' := ⟨_, rfl⟩
  rw [hs']
  have HSP := hid hs'
  clear hcap hmax hn hm hx0 hr hs'
  have HB2 := hid (bxs2 w [.slice p n cap, .int .i64 s] [.slice none 0 0, .int .i64 0] 27 27)
  go_enter Try.func12, Try.ntmps12
  go_upto_region 1 with fail
  generalize (w.alloc (.cells #[.slice p n cap, .int .i64 s] 27)).alloc (.cells #[.slice none 0 0, .int .i64 0] 27) = WB at HB2 ⊢
  have HT1 : Hid (WB.heap[w.heap.size]? = some (.cells #[.slice p n cap, .int .i64 s] 27 (0, 0))) := HB2.out.b 0 (by simp)
  have HT3 : Hid (WB.heap[w.heap.size + 1]? = some (.cells #[.slice none 0 0, .int .i64 0] 27 (0, 0))) := HB2.out.b 1 (by simp)
  have HB : Hid (Below w.heap.size w WB) := HB2.out.bel
  clear HB2
  have x0 : WB.cell? ⟨w.heap.size, 0, none⟩ = some (.slice p n cap) := by rw [cell_of_blk HT1.out]; rfl
  have x1 : WB.cell? ⟨w.heap.size, 1, none⟩ = some (.int .i64 s) := by rw [cell_of_blk HT1.out]; rfl
  go_wp2_with fail
  refine (HM.out _).mono ?_
  rintro e w2 ⟨rfl, hb⟩
  clear x0 x1
  have HBh2 := hid hb
  clear hb
  replace HT1 : Hid (w2.heap[w.heap.size]? = some (.cells #[.slice p n cap, .int .i64 s] 27 (0, 0))) := (HBh2.out.block _ (blk_lt HT1.out)).trans HT1.out
  replace HT3 : Hid (w2.heap[w.heap.size + 1]? = some (.cells #[.slice none 0 0, .int .i64 0] 27 (0, 0))) := (HBh2.out.block _ (blk_lt HT3.out)).trans HT3.out
  replace HB : Hid (Below w.heap.size w w2) := below_trans HB.out HBh2.out HB.out.size
  cases m
  · go_wp2_with ((with_reducible show wpList _ _ _ (Oper.mk _ (.store 27 _ _) _ _ _ _ :: _) _ _); refine wp_st (by rfl) 27 _ _ (by rfl) (w.heap.size + 1) 0 [.slice none 0 0, .int .i64 0] 27 (.agg #[.slice none 0 0, .int .i64 0]) [.slice none 0 0, .int .i64 0] (by rfl) (by rfl) (by rfl) HT3.out (by simp) (by kernel_rfl) (by rfl) ?_; intro w5 hq1 hq2; have HU5 := hid hq1; have HF5 := hid hq2; clear hq1 hq2)
    exact ret3t (w.heap.size + 1) [.slice none 0 0, .int .i64 0] 27 _ HU5.out rfl rfl (by rfl) Try.underlying27 rfl (by kernel_rfl) ⟨.slice none 0 0, .slice none 0 0, rfl, AO.nil _ _, BO.nil _ _, below_fr HB.out HF5.out (by omega)⟩
  · have HT := hid (tmay_of HMM.out)
    have HS02 : Hid (w.heap.size + 2 ≤ w2.heap.size) := blk_lt HT3.out
    go_wp2_with fail
    go_loopw [5, 6] (fun acts i wr => ∃ (e : Nat) (La : List Ac), i = .int .i64 (e : Int) ∧ e ≤ n ∧ 2 * La.length ≤ e ∧ AO wr (w.heap.size + 2) acts La ∧ (La ++ (rcA (l.drop e)).1 = ra ∧ e + (rcA (l.drop e)).2 = rn) ∧ Below w.heap.size w wr ∧ w2.heap.size ≤ wr.heap.size ∧ wr.heap[w.heap.size]? = some (.cells #[.slice p n cap, .int .i64 s] 27 (0, 0)) ∧ wr.heap[w.heap.size + 1]? = some (.cells #[.slice none 0 0, .int .i64 0] 27 (0, 0))) (fun _ i _ => n + 1 - (intOf i).toNat)
    case atStart => exact ⟨0, [], rfl, by omega, by simp, AO.nil _ _, by have := HR.out; simp [this], HB.out, Nat.le_refl _, HT1.out, HT3.out⟩
    case round =>
      obtain ⟨e, La, rfl, hen, hLa, hao, hrr, hbb, hss, ht1, ht3⟩ := hrel
      obtain ⟨pa, ca, hsh⟩ := hao.shape
      subst hsh
      have HRR := hid hrr
      have HLA := hid hLa
      have HSS := hid hss
      have HEN := hid hen
      have HT1 : Hid (wr.heap[w.heap.size]? = some (.cells #[.slice p n cap, .int .i64 s] 27 (0, 0))) := ht1
      have HT3 : Hid (wr.heap[w.heap.size + 1]? = some (.cells #[.slice none 0 0, .int .i64 0] 27 (0, 0))) := ht3
      have HB : Hid (Below w.heap.size w wr) := hbb
      have HV : Hid (BA wr (.slice p n cap) l) := BA.below (B := 0) HV0.out hbb
      have HAO : Hid (AO wr (w.heap.size + 2) (.slice pa La.length ca) La) := hao
      have hen' : (e : Int) ≤ (n : Int) := by omega
      have he0 : (0 : Int) ≤ (e : Int) := by omega
      have hec : (e : Int) ≤ (cap : Int) := by omega
      clear hLa hao hrr hbb hss ht1 ht3
      obtain ⟨La0, hLa0⟩ : ∃ q, La.length = q := ⟨_, rfl⟩
      rw [hLa0] at HAO ⊢
      have HLL := hid hLa0
      clear hLa0
      have x0 : wr.cell? ⟨w.heap.size, 0, none⟩ = some (.slice p n cap) := by rw [cell_of_blk HT1.out]; rfl
      have x1 : wr.cell? ⟨w.heap.size, 1, none⟩ = some (.int .i64 s) := by rw [cell_of_blk HT1.out]; rfl
      by_cases hce : e = cap
      · subst hce
        go_wp2_with fail
        refine (twhole_any (l.drop e) p (n - e) 0 wr (by rw [List.length_drop]; have := HN.out; omega) (⟨_, 0, by rw [List.length_drop, HN.out], by rw [List.length_drop, HN.out]; omega, Nat.zero_le _, fun h => by rw [List.length_drop, HN.out] at h; omega⟩)).mono ?_
        rintro x w3 ⟨u, rfl, ho, hb⟩
        clear x0 x1
        obtain ⟨pu, nu, cu, hsh⟩ := ho.shape3
        subst hsh
        have HO3 := hid ho
        have HBh3 := hid hb
        have HS3 : Hid (w2.heap.size ≤ w3.heap.size) := by have := HSS.out; have := hb.size; show _ ≤ _; omega
        clear ho hb
        replace HT1 : Hid (w3.heap[w.heap.size]? = some (.cells #[.slice p n e, .int .i64 s] 27 (0, 0))) := (HBh3.out.block _ (blk_lt HT1.out)).trans HT1.out
        replace HT3 : Hid (w3.heap[w.heap.size + 1]? = some (.cells #[.slice none 0 0, .int .i64 0] 27 (0, 0))) := (HBh3.out.block _ (blk_lt HT3.out)).trans HT3.out
        replace HB : Hid (Below w.heap.size w w3) := below_trans HB.out HBh3.out HB.out.size
        replace HV : Hid (BA w3 (.slice p n e) l) := BA.below (B := 0) HV.out HBh3.out
        replace HAO : Hid (AO w3 (w.heap.size + 2) (.slice pa La0 ca) La) := HAO.out.below HBh3.out
        have HVO : Hid (VO w3 wr.heap.size (.slice pu nu cu) (whA (l.drop e)).1.o.l) := HO3.out
        have HW1 := hid (@rcA_no (l.drop e))
        have HW2 := hid (@rcA_ok (l.drop e))
        have HWL := hid (@whA_le (l.drop e))
        obtain ⟨⟨⟨ak, ⟨ok, os, oa, ob, ol, od, oc⟩, aq, ay⟩, sz, bz⟩, hd⟩ : ∃ x, whA (l.drop e) = x := ⟨_, rfl⟩
        rw [hd] at HVO HW1 HW2 HWL ⊢
        simp only at HVO HW1 HW2 HWL ⊢
        clear hd HO3
        unfold acv
        simp only
        go_upto_region 6 with ((with_reducible show wpList _ _ _ (Oper.mk _ (.store 46 _ _) _ _ _ _ :: _) _ _); refine wp_st (by rfl) 46 _ _ (by rfl) w3.heap.size 0 [.int .i64 0, .int .i64 0, .string ⟨#[]⟩, .int .i64 0, .int .i64 0, .slice none 0 0, .int .i64 0, .bool false, .int .i64 0, .string ⟨#[]⟩] 46 (.agg #[.int .i64 ak, .int .i64 ok, .string os, .int .i64 oa, .int .i64 ob, .slice pu nu cu, .int .i64 od, .bool oc, .int .i64 aq, .string ay]) [.int .i64 ak, .int .i64 ok, .string os, .int .i64 oa, .int .i64 ob, .slice pu nu cu, .int .i64 od, .bool oc, .int .i64 aq, .string ay] (by rfl) (by rfl) (by rfl) (heap_alloc_new _ _) (by simp) (by kernel_rfl) (by rfl) ?_; intro w5 hq1 hq2; have HU5 := hid hq1; have HF5 := hid hq2; clear hq1 hq2)
        have HBn5 : Hid (Below w3.heap.size w3 w5) := below_fr ((Below.refl _ _).alloc (Nat.le_refl _) _) HF5.out (Nat.le_refl _)
        replace HT1 : Hid (w5.heap[w.heap.size]? = some (.cells #[.slice p n e, .int .i64 s] 27 (0, 0))) := (HBn5.out.block _ (blk_lt HT1.out)).trans HT1.out
        replace HT3 : Hid (w5.heap[w.heap.size + 1]? = some (.cells #[.slice none 0 0, .int .i64 0] 27 (0, 0))) := (HBn5.out.block _ (blk_lt HT3.out)).trans HT3.out
        replace HB : Hid (Below w.heap.size w w5) := below_trans HB.out HBn5.out HB.out.size
        replace HV : Hid (BA w5 (.slice p n e) l) := BA.below (B := 0) HV.out HBn5.out
        replace HAO : Hid (AO w5 (w.heap.size + 2) (.slice pa La0 ca) La) := HAO.out.below HBn5.out
        replace HVO : Hid (VO w5 wr.heap.size (.slice pu nu cu) ol) := HVO.out.kept (fun i _ hi => HBn5.out.block i hi)
        have HT7 : Hid (w5.heap[w3.heap.size]? = some (.cells #[.int .i64 ak, .int .i64 ok, .string os, .int .i64 oa, .int .i64 ob, .slice pu nu cu, .int .i64 od, .bool oc, .int .i64 aq, .string ay] 46 (0, 0))) := HU5.out
        clear HU5 HF5
        have HS0 : Hid (w.heap.size + 2 ≤ wr.heap.size) := by have := HSS.out; have := HS02.out; show _ ≤ _; omega
        cases bz
        · obtain ⟨h1, h2⟩ := HRR.out
          rw [HW1.out rfl] at h1 h2
          simp at h1 h2
          subst h1 h2
          clear HRR HW1 HW2 HWL
          clear HT7 HVO
          have x0 : w5.cell? ⟨w.heap.size, 0, none⟩ = some (.slice p n e) := by rw [cell_of_blk HT1.out]; rfl
          have x1 : w5.cell? ⟨w.heap.size, 1, none⟩ = some (.int .i64 s) := by rw [cell_of_blk HT1.out]; rfl
          by_cases hse : s ≤ (e : Int)
          · obtain rfl : s = s' := by have := HSP.out; rw [if_pos hse] at this; exact this
            have HFI := hid (first_any l p e s e s w5 (by rw [HN.out]; exact HV.out) (by have := HT.out; have := HN.out; omega) (by have := HN.out; have := HEN.out; omega))
            rw [HN.out] at HFI
            go_wp2_with fail
            refine (HFI.out).mono ?_
            rintro x w6 ⟨v6, rfl, ho, hb⟩
            clear x0 x1
            obtain ⟨p1, n1, m1, hsh⟩ := ho.shape3
            subst hsh
            have HO6 := hid ho
            have HBh6 := hid hb
            have HS56 : Hid (w.heap.size + 1 < w5.heap.size) := blk_lt HT3.out
            clear ho hb
            replace HT1 : Hid (w6.heap[w.heap.size]? = some (.cells #[.slice p n e, .int .i64 s] 27 (0, 0))) := (HBh6.out.block _ (blk_lt HT1.out)).trans HT1.out
            replace HT3 : Hid (w6.heap[w.heap.size + 1]? = some (.cells #[.slice none 0 0, .int .i64 0] 27 (0, 0))) := (HBh6.out.block _ (blk_lt HT3.out)).trans HT3.out
            replace HB : Hid (Below w.heap.size w w6) := below_trans HB.out HBh6.out HB.out.size
            replace HV : Hid (BA w6 (.slice p n e) l) := BA.below (B := 0) HV.out HBh6.out
            replace HAO : Hid (AO w6 (w.heap.size + 2) (.slice pa La0 ca) La) := HAO.out.below HBh6.out
            go_wp2_with ((with_reducible show wpList _ _ _ (Oper.mk _ (.store 27 _ _) _ _ _ _ :: _) _ _); refine wp_st (by rfl) 27 _ _ (by rfl) (w.heap.size + 1) 0 [.slice none 0 0, .int .i64 0] 27 (.agg #[.slice p1 n1 m1, .int .i64 s]) [.slice p1 n1 m1, .int .i64 s] (by rfl) (by rfl) (by rfl) HT3.out (by simp) (by kernel_rfl) (by rfl) ?_; intro w7 hq1 hq2; have HU7 := hid hq1; have HF7 := hid hq2; clear hq1 hq2)
            exact ret3t (w.heap.size + 1) [.slice p1 n1 m1, .int .i64 s] 27 _ HU7.out rfl rfl (by rfl) Try.underlying27 rfl (by kernel_rfl) ⟨_, _, rfl, (AO.frLt HAO.out HF7.out (by omega)).weak (by omega), (HO6.out.frLt HF7.out HS56.out).weak (by have := HS56.out; omega), below_fr HB.out HF7.out (by omega)⟩
          · obtain rfl : s' = (e : Int) := by have := HSP.out; rw [if_neg hse] at this; exact this.symm
            have HFI := hid (first_any l p e s e (e : Int) w5 (by rw [HN.out]; exact HV.out) (by have := HT.out; have := HN.out; omega) (by have := HN.out; have := HEN.out; omega))
            rw [HN.out] at HFI
            go_wp2_with fail
            refine (HFI.out).mono ?_
            rintro x w6 ⟨v6, rfl, ho, hb⟩
            clear x0 x1
            obtain ⟨p1, n1, m1, hsh⟩ := ho.shape3
            subst hsh
            have HO6 := hid ho
            have HBh6 := hid hb
            have HS56 : Hid (w.heap.size + 1 < w5.heap.size) := blk_lt HT3.out
            clear ho hb
            replace HT1 : Hid (w6.heap[w.heap.size]? = some (.cells #[.slice p n e, .int .i64 s] 27 (0, 0))) := (HBh6.out.block _ (blk_lt HT1.out)).trans HT1.out
            replace HT3 : Hid (w6.heap[w.heap.size + 1]? = some (.cells #[.slice none 0 0, .int .i64 0] 27 (0, 0))) := (HBh6.out.block _ (blk_lt HT3.out)).trans HT3.out
            replace HB : Hid (Below w.heap.size w w6) := below_trans HB.out HBh6.out HB.out.size
            replace HV : Hid (BA w6 (.slice p n e) l) := BA.below (B := 0) HV.out HBh6.out
            replace HAO : Hid (AO w6 (w.heap.size + 2) (.slice pa La0 ca) La) := HAO.out.below HBh6.out
            go_wp2_with ((with_reducible show wpList _ _ _ (Oper.mk _ (.store 27 _ _) _ _ _ _ :: _) _ _); refine wp_st (by rfl) 27 _ _ (by rfl) (w.heap.size + 1) 0 [.slice none 0 0, .int .i64 0] 27 (.agg #[.slice p1 n1 m1, .int .i64 (e : Int)]) [.slice p1 n1 m1, .int .i64 (e : Int)] (by rfl) (by rfl) (by rfl) HT3.out (by simp) (by kernel_rfl) (by rfl) ?_; intro w7 hq1 hq2; have HU7 := hid hq1; have HF7 := hid hq2; clear hq1 hq2)
            exact ret3t (w.heap.size + 1) [.slice p1 n1 m1, .int .i64 (e : Int)] 27 _ HU7.out rfl rfl (by rfl) Try.underlying27 rfl (by kernel_rfl) ⟨_, _, rfl, (AO.frLt HAO.out HF7.out (by omega)).weak (by omega), (HO6.out.frLt HF7.out HS56.out).weak (by have := HS56.out; omega), below_fr HB.out HF7.out (by omega)⟩
        · exfalso
          obtain ⟨hz1, hz2⟩ := HWL.out rfl
          rw [List.length_drop, HN.out] at hz2
          omega
      · have hce2 : ¬ cap = e := fun h => hce h.symm
        go_wp2_with fail
        refine (twhole_any (l.drop e) (p.map (fun x => x.add e)) (n - e) (cap - e) wr (by rw [List.length_drop]; have := HN.out; omega) (HV.out.dropO HEN.out)).mono ?_
        rintro x w3 ⟨u, rfl, ho, hb⟩
        clear x0 x1
        obtain ⟨pu, nu, cu, hsh⟩ := ho.shape3
        subst hsh
        have HO3 := hid ho
        have HBh3 := hid hb
        have HS3 : Hid (w2.heap.size ≤ w3.heap.size) := by have := HSS.out; have := hb.size; show _ ≤ _; omega
        clear ho hb
        replace HT1 : Hid (w3.heap[w.heap.size]? = some (.cells #[.slice p n cap, .int .i64 s] 27 (0, 0))) := (HBh3.out.block _ (blk_lt HT1.out)).trans HT1.out
        replace HT3 : Hid (w3.heap[w.heap.size + 1]? = some (.cells #[.slice none 0 0, .int .i64 0] 27 (0, 0))) := (HBh3.out.block _ (blk_lt HT3.out)).trans HT3.out
        replace HB : Hid (Below w.heap.size w w3) := below_trans HB.out HBh3.out HB.out.size
        replace HV : Hid (BA w3 (.slice p n cap) l) := BA.below (B := 0) HV.out HBh3.out
        replace HAO : Hid (AO w3 (w.heap.size + 2) (.slice pa La0 ca) La) := HAO.out.below HBh3.out
        have HVO : Hid (VO w3 wr.heap.size (.slice pu nu cu) (whA (l.drop e)).1.o.l) := HO3.out
        have HW1 := hid (@rcA_no (l.drop e))
        have HW2 := hid (@rcA_ok (l.drop e))
        have HWL := hid (@whA_le (l.drop e))
        obtain ⟨⟨⟨ak, ⟨ok, os, oa, ob, ol, od, oc⟩, aq, ay⟩, sz, bz⟩, hd⟩ : ∃ x, whA (l.drop e) = x := ⟨_, rfl⟩
        rw [hd] at HVO HW1 HW2 HWL ⊢
        simp only at HVO HW1 HW2 HWL ⊢
        clear hd HO3
        unfold acv
        simp only
        go_upto_region 6 with ((with_reducible show wpList _ _ _ (Oper.mk _ (.store 46 _ _) _ _ _ _ :: _) _ _); refine wp_st (by rfl) 46 _ _ (by rfl) w3.heap.size 0 [.int .i64 0, .int .i64 0, .string ⟨#[]⟩, .int .i64 0, .int .i64 0, .slice none 0 0, .int .i64 0, .bool false, .int .i64 0, .string ⟨#[]⟩] 46 (.agg #[.int .i64 ak, .int .i64 ok, .string os, .int .i64 oa, .int .i64 ob, .slice pu nu cu, .int .i64 od, .bool oc, .int .i64 aq, .string ay]) [.int .i64 ak, .int .i64 ok, .string os, .int .i64 oa, .int .i64 ob, .slice pu nu cu, .int .i64 od, .bool oc, .int .i64 aq, .string ay] (by rfl) (by rfl) (by rfl) (heap_alloc_new _ _) (by simp) (by kernel_rfl) (by rfl) ?_; intro w5 hq1 hq2; have HU5 := hid hq1; have HF5 := hid hq2; clear hq1 hq2)
        have HBn5 : Hid (Below w3.heap.size w3 w5) := below_fr ((Below.refl _ _).alloc (Nat.le_refl _) _) HF5.out (Nat.le_refl _)
        replace HT1 : Hid (w5.heap[w.heap.size]? = some (.cells #[.slice p n cap, .int .i64 s] 27 (0, 0))) := (HBn5.out.block _ (blk_lt HT1.out)).trans HT1.out
        replace HT3 : Hid (w5.heap[w.heap.size + 1]? = some (.cells #[.slice none 0 0, .int .i64 0] 27 (0, 0))) := (HBn5.out.block _ (blk_lt HT3.out)).trans HT3.out
        replace HB : Hid (Below w.heap.size w w5) := below_trans HB.out HBn5.out HB.out.size
        replace HV : Hid (BA w5 (.slice p n cap) l) := BA.below (B := 0) HV.out HBn5.out
        replace HAO : Hid (AO w5 (w.heap.size + 2) (.slice pa La0 ca) La) := HAO.out.below HBn5.out
        replace HVO : Hid (VO w5 wr.heap.size (.slice pu nu cu) ol) := HVO.out.kept (fun i _ hi => HBn5.out.block i hi)
        have HT7 : Hid (w5.heap[w3.heap.size]? = some (.cells #[.int .i64 ak, .int .i64 ok, .string os, .int .i64 oa, .int .i64 ob, .slice pu nu cu, .int .i64 od, .bool oc, .int .i64 aq, .string ay] 46 (0, 0))) := HU5.out
        clear HU5 HF5
        have HS0 : Hid (w.heap.size + 2 ≤ wr.heap.size) := by have := HSS.out; have := HS02.out; show _ ≤ _; omega
        cases bz
        · obtain ⟨h1, h2⟩ := HRR.out
          rw [HW1.out rfl] at h1 h2
          simp at h1 h2
          subst h1 h2
          clear HRR HW1 HW2 HWL
          clear HT7 HVO
          have x0 : w5.cell? ⟨w.heap.size, 0, none⟩ = some (.slice p n cap) := by rw [cell_of_blk HT1.out]; rfl
          have x1 : w5.cell? ⟨w.heap.size, 1, none⟩ = some (.int .i64 s) := by rw [cell_of_blk HT1.out]; rfl
          by_cases hse : s ≤ (e : Int)
          · obtain rfl : s = s' := by have := HSP.out; rw [if_pos hse] at this; exact this
            have HFI := hid (first_any l p cap s e s w5 (by rw [HN.out]; exact HV.out) (by have := HT.out; have := HN.out; omega) (by have := HN.out; have := HEN.out; omega))
            rw [HN.out] at HFI
            go_wp2_with fail
            refine (HFI.out).mono ?_
            rintro x w6 ⟨v6, rfl, ho, hb⟩
            clear x0 x1
            obtain ⟨p1, n1, m1, hsh⟩ := ho.shape3
            subst hsh
            have HO6 := hid ho
            have HBh6 := hid hb
            have HS56 : Hid (w.heap.size + 1 < w5.heap.size) := blk_lt HT3.out
            clear ho hb
            replace HT1 : Hid (w6.heap[w.heap.size]? = some (.cells #[.slice p n cap, .int .i64 s] 27 (0, 0))) := (HBh6.out.block _ (blk_lt HT1.out)).trans HT1.out
            replace HT3 : Hid (w6.heap[w.heap.size + 1]? = some (.cells #[.slice none 0 0, .int .i64 0] 27 (0, 0))) := (HBh6.out.block _ (blk_lt HT3.out)).trans HT3.out
            replace HB : Hid (Below w.heap.size w w6) := below_trans HB.out HBh6.out HB.out.size
            replace HV : Hid (BA w6 (.slice p n cap) l) := BA.below (B := 0) HV.out HBh6.out
            replace HAO : Hid (AO w6 (w.heap.size + 2) (.slice pa La0 ca) La) := HAO.out.below HBh6.out
            go_wp2_with ((with_reducible show wpList _ _ _ (Oper.mk _ (.store 27 _ _) _ _ _ _ :: _) _ _); refine wp_st (by rfl) 27 _ _ (by rfl) (w.heap.size + 1) 0 [.slice none 0 0, .int .i64 0] 27 (.agg #[.slice p1 n1 m1, .int .i64 s]) [.slice p1 n1 m1, .int .i64 s] (by rfl) (by rfl) (by rfl) HT3.out (by simp) (by kernel_rfl) (by rfl) ?_; intro w7 hq1 hq2; have HU7 := hid hq1; have HF7 := hid hq2; clear hq1 hq2)
            exact ret3t (w.heap.size + 1) [.slice p1 n1 m1, .int .i64 s] 27 _ HU7.out rfl rfl (by rfl) Try.underlying27 rfl (by kernel_rfl) ⟨_, _, rfl, (AO.frLt HAO.out HF7.out (by omega)).weak (by omega), (HO6.out.frLt HF7.out HS56.out).weak (by have := HS56.out; omega), below_fr HB.out HF7.out (by omega)⟩
          · obtain rfl : s' = (e : Int) := by have := HSP.out; rw [if_neg hse] at this; exact this.symm
            have HFI := hid (first_any l p cap s e (e : Int) w5 (by rw [HN.out]; exact HV.out) (by have := HT.out; have := HN.out; omega) (by have := HN.out; have := HEN.out; omega))
            rw [HN.out] at HFI
            go_wp2_with fail
            refine (HFI.out).mono ?_
            rintro x w6 ⟨v6, rfl, ho, hb⟩
            clear x0 x1
            obtain ⟨p1, n1, m1, hsh⟩ := ho.shape3
            subst hsh
            have HO6 := hid ho
            have HBh6 := hid hb
            have HS56 : Hid (w.heap.size + 1 < w5.heap.size) := blk_lt HT3.out
            clear ho hb
            replace HT1 : Hid (w6.heap[w.heap.size]? = some (.cells #[.slice p n cap, .int .i64 s] 27 (0, 0))) := (HBh6.out.block _ (blk_lt HT1.out)).trans HT1.out
            replace HT3 : Hid (w6.heap[w.heap.size + 1]? = some (.cells #[.slice none 0 0, .int .i64 0] 27 (0, 0))) := (HBh6.out.block _ (blk_lt HT3.out)).trans HT3.out
            replace HB : Hid (Below w.heap.size w w6) := below_trans HB.out HBh6.out HB.out.size
            replace HV : Hid (BA w6 (.slice p n cap) l) := BA.below (B := 0) HV.out HBh6.out
            replace HAO : Hid (AO w6 (w.heap.size + 2) (.slice pa La0 ca) La) := HAO.out.below HBh6.out
            go_wp2_with ((with_reducible show wpList _ _ _ (Oper.mk _ (.store 27 _ _) _ _ _ _ :: _) _ _); refine wp_st (by rfl) 27 _ _ (by rfl) (w.heap.size + 1) 0 [.slice none 0 0, .int .i64 0] 27 (.agg #[.slice p1 n1 m1, .int .i64 (e : Int)]) [.slice p1 n1 m1, .int .i64 (e : Int)] (by rfl) (by rfl) (by rfl) HT3.out (by simp) (by kernel_rfl) (by rfl) ?_; intro w7 hq1 hq2; have HU7 := hid hq1; have HF7 := hid hq2; clear hq1 hq2)
            exact ret3t (w.heap.size + 1) [.slice p1 n1 m1, .int .i64 (e : Int)] 27 _ HU7.out rfl rfl (by rfl) Try.underlying27 rfl (by kernel_rfl) ⟨_, _, rfl, (AO.frLt HAO.out HF7.out (by omega)).weak (by omega), (HO6.out.frLt HF7.out HS56.out).weak (by have := HS56.out; omega), below_fr HB.out HF7.out (by omega)⟩
        · obtain ⟨hz1, hz2⟩ := HWL.out rfl
          rw [List.length_drop, HN.out] at hz2
          have hz3 : (e : Int) + (sz : Int) ≤ 200000 := by have := HT.out; have := HEN.out; omega
          have HZ := hid (And.intro hz1 hz2)
          have HW3 := hid (HW2.out rfl)
          clear hz1 hz2 HW1 HW2 HWL
          have HS5 : Hid (wr.heap.size ≤ w5.heap.size) := by have := HBh3.out.size; have := HBn5.out.size; show _ ≤ _; omega
          have x0 : w5.cell? ⟨w3.heap.size, 0, none⟩ = some (.int .i64 ak) := by rw [cell_of_blk HT7.out]; rfl
          have x1 : w5.cell? ⟨w3.heap.size, 1, none⟩ = some (.int .i64 ok) := by rw [cell_of_blk HT7.out]; rfl
          have x2 : w5.cell? ⟨w3.heap.size, 2, none⟩ = some (.string os) := by rw [cell_of_blk HT7.out]; rfl
          have x3 : w5.cell? ⟨w3.heap.size, 3, none⟩ = some (.int .i64 oa) := by rw [cell_of_blk HT7.out]; rfl
          have x4 : w5.cell? ⟨w3.heap.size, 4, none⟩ = some (.int .i64 ob) := by rw [cell_of_blk HT7.out]; rfl
          have x5 : w5.cell? ⟨w3.heap.size, 5, none⟩ = some (.slice pu nu cu) := by rw [cell_of_blk HT7.out]; rfl
          have x6 : w5.cell? ⟨w3.heap.size, 6, none⟩ = some (.int .i64 od) := by rw [cell_of_blk HT7.out]; rfl
          have x7 : w5.cell? ⟨w3.heap.size, 7, none⟩ = some (.bool oc) := by rw [cell_of_blk HT7.out]; rfl
          have x8 : w5.cell? ⟨w3.heap.size, 8, none⟩ = some (.int .i64 aq) := by rw [cell_of_blk HT7.out]; rfl
          have x9 : w5.cell? ⟨w3.heap.size, 9, none⟩ = some (.string ay) := by rw [cell_of_blk HT7.out]; rfl
          go_wp2_with (at_builtin; go_loud (refine wp_pushA (by rfl) _ _ (by rfl) w5 (w.heap.size + 2) (.slice pa La0 ca) La (by rfl) HAO.out (by rfl) (by first | rfl | simp) ⟨ak, ⟨ok, os, oa, ob, ol, od, oc⟩, aq, ay⟩ (.slice pu nu cu) (VO.weak HVO.out HS0.out) (by have := HLA.out; have := HEN.out; have := HT.out; omega) (by have := HS0.out; have := HS5.out; omega) ?_); intro v8 w8 hq1 hq2; have HA8 := hid hq1; have HB8 := hid hq2; obtain ⟨p8, n8, c8, hsh⟩ : ∃ p n c, v8 = .slice p n c := (by obtain ⟨p, c, h⟩ := hq1.shape; exact ⟨p, _, c, h⟩); subst hsh; clear hq1 hq2 x0 x1 x2 x3 x4 x5 x6 x7 x8 x9)
          go_roundw
          case rel =>
            refine ⟨e + sz, La ++ [⟨ak, ⟨ok, os, oa, ob, ol, od, oc⟩, aq, ay⟩], by go_num, by have := HZ.out; have := HEN.out; omega, by have := HZ.out; have := HLA.out; simp; omega, HA8.out, ?_, below_trans HB.out HB8.out (by omega), by have := HB8.out.size; have := HBn5.out.size; have := HS3.out; omega, (HB8.out.block _ (by omega)).trans HT1.out, (HB8.out.block _ (by omega)).trans HT3.out⟩
            obtain ⟨h1, h2⟩ := HRR.out
            rw [HW3.out] at h1 h2
            rw [List.drop_drop] at h1 h2
            simp only at h1 h2
            refine ⟨by rw [← h1]; simp, by omega⟩
          case measure =>
            have := HZ.out
            have := HEN.out
            exact meas_e (by omega) (by omega)
end Go.Proofs.Ytepgkemnpcadiab
