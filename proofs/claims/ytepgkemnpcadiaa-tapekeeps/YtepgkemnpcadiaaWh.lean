/-
  An event behind a row of bytes.
-/
import Derived.Test.YtepgkemnpcadiaaWg
import Derived.Deep.RegionHeld3
import Derived.Shelf.Abstract
namespace Go.Proofs.Ytepgkemnpcadiaa
open Go.ChangeShapes Go.WideShapes Go.ChangeAt Go.RowKit Go.Maps
set_option linter.unusedVariables false
set_option linter.unusedSimpArgs false
set_option maxRecDepth 20000
theorem start_n {P : Program} {ops : Array Oper} {Q : Exit → Act → World → Prop} {S : World → Prop} {id : Nat} {a : Act} {w : World} (n : Nat) (l : Array Bool) (hn : ops.size = n) (hl : Array.replicate n false = l) (hm : P.follows .mixedOrders = true) (hS : S w.drew)
    (h : S w.drew → wpAnyH P .any ops Q S n l a w.drew) : (Code.region id ops true).wp P Q a w := by
  subst hn hl
  exact wp_region_held_drew hm hS h
theorem take_mk {P : Program} {ops : Array Oper} {Q : Exit → Act → World → Prop} {md : Region.Mode} {S : World → Prop} {i : Nat} {d : _} {op : _} {t : _} {p : _} {af : _} {gd : _} {v : Value} {fuel : Nat} {listed : Array Bool} {a : Act} {w : World} (hi : ops[i]? = some (Oper.mk d op t p af gd))
    (hs : Region.noSelect ops = true) (hf : Region.free md ops listed i = true) (hr : (Region.ready md ops listed).contains i = true) (hQ : ∀ c a w, Q (.panic c) (a.put d v) w → Q (.panic c) a w) (hy : YieldsIf P ops S (Oper.mk d op t p af gd) v a) (hS : S w)
    (h : wpAnyH P md ops Q S fuel (listed.setIfInBounds i true) (a.put d v) w) : wpAnyH P md ops Q S (fuel + 1) listed a w := wpAnyH_take hi hs hf hr hQ hy hS h
theorem cons_mk {P : Program} {ops : Array Oper} {Q : Exit → Act → World → Prop} {md : Region.Mode} {S : World → Prop} {i : Nat} {d : _} {op : _} {t : _} {p : _} {af : _} {gd : _} {fuel : Nat} {listed : Array Bool} {a : Act} {w : World} {rs : List Nat} (ho : ops[i]? = some (Oper.mk d op t p af gd))
    (h : ∀ K' : Act → World → Prop, Shut (∀ a w, S w → (S w → wpAnyH P md ops Q S fuel (listed.setIfInBounds i true) a w) → K' a w) → if Region.wanted (Oper.mk d op t p af gd) (yielded ops a.tmps) = true then Oper.wp P (Oper.mk d op t p af gd) a w K' Q else K' (a.put d undef) w)
    (hs : AllReadyH P md ops Q S fuel listed a w rs) : AllReadyH P md ops Q S fuel listed a w (i :: rs) := AllReadyH.cons ho h hs
theorem step_call2 {ops : Array Oper} {o : Oper} {a : Act} {w : World} {K : Act → World → Prop} {Q : Exit → Act → World → Prop} {E : Prop} (f : FuncId) (he : ∀ args w, (callFunc f args).run Try.prog w = .ok (.enter f args) w) (hgd : o.guard = none) (s x : Operand) (ts : Array TypeId) (ho : o.op = .call { callee := .value (.func f), args := #[s, x], argTypes := ts }) (u1 u2 : Value) (h1 : a.eval s = u1) (h2 : a.eval x = u2)
    (R : Ending → World → Prop) (hc : Calls Try.prog f #[u1, u2] w R) (h : ∀ e w', R e w' → ∃ v, e = .returned v ∧ K (a.put o.dst v) w') :
    if Region.wanted o (yielded ops a.tmps) = true then Oper.wp Try.prog o a w K Q else E := by
  have hw : Region.wanted o (yielded ops a.tmps) = true := by simp [Region.wanted, hgd]
  rw [if_pos hw]
  unfold Oper.wp execOp
  have hf : a.eval (.func f) = Value.func (Fn.func f) #[] #[] := rfl
  simp [ho, resolve, invoke, Deferred.ofValue, hf, h1, h2, he]
  refine hc.mono ?_
  intro e w' hr
  obtain ⟨v, rfl, hk⟩ := h e w' hr
  exact hk
theorem ent_putLong : ∀ args w, (callFunc 69 args).run Try.prog w = .ok (.enter 69 args) w := enters_of Try.func69 (by kernel_rfl) rfl
/-- Bytes of values, the first k. -/
def evs (l : List Vl) (k : Nat) : List UInt8 := (l.take k).flatMap evb
theorem evs_succ {l : List Vl} {k : Nat} (h : k < l.length) : evs l (k + 1) = evs l k ++ evb l[k] := by
  unfold evs
  rw [List.take_succ_eq_append_getElem h, List.flatMap_append]
  simp
theorem evs_all (l : List Vl) : evs l l.length = l.flatMap evb := by unfold evs; rw [List.take_length]
theorem evb_len {v : Vl} (h : vchk v = 0) : (evb v).length ≤ 22 := by
  obtain ⟨hk, hn1, hn2, hs, _, _⟩ := vchk_zero h
  unfold evb
  split
  · simp [txb]; omega
  · have := lng_10 (fld_lt (z := v.n) (by omega) (by omega))
    simp; omega
theorem evs_len {l : List Vl} (h : ∀ v ∈ l, vchk v = 0) : ∀ k, (evs l k).length ≤ 22 * k
  | 0 => by simp [evs]
  | k + 1 => by
    by_cases c : k < l.length
    · rw [evs_succ c, List.length_append]
      have := evs_len h k
      have := evb_len (h l[k] (List.getElem_mem c))
      omega
    · have e : evs l (k + 1) = evs l k := by unfold evs; rw [List.take_of_length_le (by omega), List.take_of_length_le (by omega)]
      rw [e]
      have := evs_len h k
      omega
/-- An event's bytes behind its type. -/
def evt (an bn : Nat) (l : List Vl) : List UInt8 := lng an ++ lng bn ++ [UInt8.ofNat l.length]
set_option maxHeartbeats 8000000 in
theorem putEvent_any (B : Nat) (u : Value) (l : List UInt8) (an bn : Nat) (y : Value) (vs : List Vl) (w : World) (h : BO w B u l) (hl : l.length < 1000000) (hB : B ≤ w.heap.size) (ha : an ≤ 1099511627776) (hb : bn ≤ 1099511627776)
    (hy : ValsAt w y vs) (hyB : ∀ W, Below B w W → ValsAt W y vs) (hn : vs.length ≤ 4) (hv : ∀ v ∈ vs, vchk v = 0) :
    Calls Try.prog 70 #[u, .agg #[.int .i64 (an : Int), .int .i64 (bn : Int)], y] w fun e w' => ∃ v', e = .returned v' ∧ BO w' B v' (l ++ (evt an bn vs ++ vs.flatMap evb)) ∧ Below B w w' := by
  have H1 := lng_10 (n := an) (by omega)
  have H2 := lng_10 (n := bn) (by omega)
  have HC1 := hid (fun W (hw : BO W B u l) (hb : B ≤ W.heap.size) => putLong_any B u l an W hw (by omega) (by omega) hb)
  have HC2 := hid (fun W V (hw : BO W B V (l ++ lng an)) (hb : B ≤ W.heap.size) => putLong_any B V (l ++ lng an) bn W hw (by simp; omega) (by omega) hb)
  have HBB := hid hB
  have HYB := hid hyB
  have HVC := hid hv
  obtain ⟨pu, nu, cu, hsh⟩ := h.shape3
  subst hsh
  obtain ⟨py, cy, hysh, _⟩ := hy.shape'
  subst hysh
  have HBX : Hid (BO (w.alloc (.cells #[.int .i64 (an : Int), .int .i64 (bn : Int)] 23)) B (.slice pu nu cu) l) := h.below ((Below.refl _ w).alloc (Nat.le_refl _) _)
  have HNE := hid (h.ne (Nat.le_refl w.heap.size))
  have HBB2 : Hid (B ≤ (w.alloc (.cells #[.int .i64 (an : Int), .int .i64 (bn : Int)] 23)).heap.size) := by show B ≤ _; simp; omega
  have HL5 : Hid ((l ++ lng an ++ lng bn).length < 140000000000000) := by show _ < _; simp; omega
  have HL6 : Hid ((l ++ lng an ++ lng bn ++ [UInt8.ofNat vs.length]).length < 2000000) := by show _ < _; simp; omega
  have HS0 : Hid ((w.alloc (.cells #[.int .i64 (an : Int), .int .i64 (bn : Int)] 23)).drew.cell? ⟨w.heap.size, 0, none⟩ = some (.int .i64 (an : Int)) ∧ (w.alloc (.cells #[.int .i64 (an : Int), .int .i64 (bn : Int)] 23)).drew.cell? ⟨w.heap.size, 1, none⟩ = some (.int .i64 (bn : Int))) := ⟨cell_new (X := w) rfl rfl, cell_new (X := w) rfl rfl⟩
  obtain ⟨n, hnl⟩ : ∃ n, vs.length = n := ⟨_, rfl⟩
  have HNL := hid hnl
  rw [hnl] at HL6 ⊢
  have hn4 : n ≤ 4 := by omega
  have hw := w8 n (by omega)
  have HU := hid (u8_of n (by omega))
  clear h hl hB ha hb hy hyB hv H1 H2 hn hnl
  go_enter Try.func70, Try.ntmps70
  go_wp2_with fail
  refine start_n (S := fun W => W.cell? ⟨w.heap.size, 0, none⟩ = some (.int .i64 (an : Int)) ∧ W.cell? ⟨w.heap.size, 1, none⟩ = some (.int .i64 (bn : Int))) 8 #[false, false, false, false, false, false, false, false] rfl rfl (by kernel_rfl) (HS0.out) (fun hHeld => ?_)
  refine take_mk (i := 0) (v := ?v1) rfl (by kernel_rfl) (by kernel_rfl) (by kernel_rfl) (fun _ _ _ h => h) (Or.inl ⟨by rfl, ?hy1⟩) (by assumption) ?rest1
  case hy1 => (intro w0 hSw; obtain ⟨q0, q1⟩ := hSw; go_simp <;> (try (with_reducible rfl)))
  (try simp only [Act.put, List.setIfInBounds_toArray, List.set_cons_zero, List.set_cons_succ])
  refine take_mk (i := 1) (v := ?v2) rfl (by kernel_rfl) (by kernel_rfl) (by kernel_rfl) (fun _ _ _ h => h) (Or.inl ⟨by rfl, ?hy2⟩) (by assumption) ?rest2
  case hy2 => (intro w0 hSw; obtain ⟨q0, q1⟩ := hSw; go_simp <;> (try (with_reducible rfl)))
  (try simp only [Act.put, List.setIfInBounds_toArray, List.set_cons_zero, List.set_cons_succ])
  refine take_mk (i := 2) (v := ?v3) rfl (by kernel_rfl) (by kernel_rfl) (by kernel_rfl) (fun _ _ _ h => h) (Or.inl ⟨by rfl, ?hy3⟩) (by assumption) ?rest3
  case hy3 => (intro w0 hSw; obtain ⟨q0, q1⟩ := hSw; go_simp <;> (try (with_reducible rfl)))
  (try simp only [Act.put, List.setIfInBounds_toArray, List.set_cons_zero, List.set_cons_succ])
  refine take_mk (i := 4) (v := ?v4) rfl (by kernel_rfl) (by kernel_rfl) (by kernel_rfl) (fun _ _ _ h => h) (Or.inl ⟨by rfl, ?hy4⟩) (by assumption) ?rest4
  case hy4 => (intro w0 hSw; obtain ⟨q0, q1⟩ := hSw; go_simp <;> (try (with_reducible rfl)))
  (try simp only [Act.put, List.setIfInBounds_toArray, List.set_cons_zero, List.set_cons_succ])
  refine take_mk (i := 5) (v := ?v5) rfl (by kernel_rfl) (by kernel_rfl) (by kernel_rfl) (fun _ _ _ h => h) (Or.inl ⟨by rfl, ?hy5⟩) (by assumption) ?rest5
  case hy5 => (intro w0 hSw; obtain ⟨q0, q1⟩ := hSw; go_simp <;> (try (with_reducible rfl)))
  (try simp only [Act.put, List.setIfInBounds_toArray, List.set_cons_zero, List.set_cons_succ])
  refine wpAnyH_ready (rs := [3]) (by kernel_rfl) (by simp) ?_
  refine cons_mk rfl (fun K hK => ?_) AllReadyH.nil
  refine step_call2 69 ent_putLong (by rfl) _ _ _ (by rfl) (.slice pu nu cu) (.int .i64 (an : Int)) (by rfl) (by rfl) _ (HC1.out _ HBX.out HBB2.out) ?_
  rintro e w4 ⟨v4, rfl, ho4, hg4⟩
  obtain ⟨p4, n4, c4, hvv⟩ := ho4.shape3
  subst hvv
  refine ⟨_, rfl, ?_⟩
  have HO4 := hid ho4
  have HG4 := hid hg4
  clear ho4 hg4
  refine hK.out _ _ (⟨HG4.out.cell HS0.out.1 HNE.out, HG4.out.cell HS0.out.2 HNE.out⟩) (fun hHeld => ?_)
  clear hK K
  (try simp only [Act.put, List.setIfInBounds_toArray, List.set_cons_zero, List.set_cons_succ])
  refine wpAnyH_ready (rs := [6]) (by kernel_rfl) (by simp) ?_
  refine cons_mk rfl (fun K hK => ?_) AllReadyH.nil
  refine step_call2 69 ent_putLong (by rfl) _ _ _ (by rfl) (.slice p4 n4 c4) (.int .i64 (bn : Int)) (by rfl) (by rfl) _ (HC2.out _ _ HO4.out (Nat.le_trans HBB2.out HG4.out.1.size)) ?_
  rintro e w5 ⟨v5, rfl, ho5, hg5⟩
  obtain ⟨p5, n5, c5, hvv⟩ := ho5.shape3
  subst hvv
  refine ⟨_, rfl, ?_⟩
  have HO5 := hid ho5
  have HG5 := hid (HG4.out.trans hg5)
  clear ho5 hg5
  refine hK.out _ _ (⟨HG5.out.cell HS0.out.1 HNE.out, HG5.out.cell HS0.out.2 HNE.out⟩) (fun hHeld => ?_)
  clear hK K
  (try simp only [Act.put, List.setIfInBounds_toArray, List.set_cons_zero, List.set_cons_succ])
  refine take_mk (i := 7) (v := ?v6) rfl (by kernel_rfl) (by kernel_rfl) (by kernel_rfl) (fun _ _ _ h => h) (Or.inl ⟨by rfl, ?hy6⟩) (by assumption) ?rest6
  case hy6 => (intro w0 hSw; obtain ⟨q0, q1⟩ := hSw; go_simp <;> (try (with_reducible rfl)))
  (try simp only [Act.put, List.setIfInBounds_toArray, List.set_cons_zero, List.set_cons_succ])
  refine wpAnyH_done (by kernel_rfl) ?_ _
  have HBL5 : Hid (Below B w w5) := ((Below.refl B w).alloc HBB.out _).drew.trans (HG5.out.bel HBX.out HBB2.out)
  have HB5 : Hid (B ≤ w5.heap.size) := Nat.le_trans HBB.out HBL5.out.size
  clear hHeld
  go_wp2_with (at_builtin; go_loud (refine wp_push (by rfl) _ _ (by rfl) w5 B _ (l ++ lng an ++ lng bn) (by rfl) HO5.out (by rfl) (by first | rfl | simp) (UInt8.ofNat n) _ HU.out HL5.out HB5.out ?_); intro v6 w6 hown hbl; have HO6 := hid hown; have HG6 := hid hbl; obtain ⟨pv6, nv6, cv6, hvv⟩ := hown.shape3; subst hvv; clear hown hbl)
  have HBL6 : Hid (Below B w w6) := HBL5.out.trans (HG6.out.bel HO5.out HB5.out)
  have hi0 : (0 : Int) ≤ n := by omega
  go_loopw [0, 24] (fun v i wr => ∃ k : Nat, k ≤ n ∧ i = .int .i64 (k : Nat) ∧ BO wr B v (l ++ lng an ++ lng bn ++ [UInt8.ofNat n] ++ evs vs k) ∧ Below B w wr) (fun _ i _ => n + 1 - (intOf i).toNat)
  case atStart => exact ⟨0, by omega, rfl, by have := HO6.out; simpa [evs] using this, HBL6.out⟩
  case round =>
    obtain ⟨k, hk, rfl, hrow, hb⟩ := hrel
    obtain ⟨p7, n7, c7, hsh⟩ := hrow.shape3
    subst hsh
    have HROW := hid hrow
    have HBW := hid hb
    have HBR : Hid (B ≤ wr.heap.size) := Nat.le_trans HBB.out hb.size
    by_cases hlt : k < n
    · have hkd : k < vs.length := by have := HNL.out; omega
      obtain ⟨p8, cap8, hsh8, hcap8, hmax8, hp8⟩ := HYB.out wr hb
      obtain ⟨g, off, hg, hc⟩ := hp8 (by omega)
      obtain ⟨hgs, b0, b1, b2⟩ := hc k hkd
      rw [HNL.out] at hsh8
      cases hsh8
      subst hg
      have HVK : Hid (vchk vs[k] = 0) := HVC.out _ (List.getElem_mem hkd)
      have HSU := hid (evs_succ hkd)
      obtain ⟨q, hq⟩ : ∃ q, vs[k] = q := ⟨_, rfl⟩
      rw [hq] at b0 b1 b2 HVK HSU
      have i1 : (0 : Int) ≤ (k : Int) := by omega
      have i2 : (k : Int) < (n : Int) := by omega
      have HLK : Hid ((l ++ lng an ++ lng bn ++ [UInt8.ofNat n] ++ evs vs k).length < 90000000) := by
        have h6 := HL6.out
        have h7 := evs_len HVC.out k
        show _ < _
        rw [List.length_append]; omega
      have HROW2 : Hid (BO (wr.alloc (.cells #[.int .i64 q.k, .int .i64 q.n, .string q.s] 79)) B (.slice p7 n7 c7) (l ++ lng an ++ lng bn ++ [UInt8.ofNat n] ++ evs vs k)) := hrow.below ((Below.refl _ wr).alloc (Nat.le_refl _) _)
      have HBA : Hid (Below B w (wr.alloc (.cells #[.int .i64 q.k, .int .i64 q.n, .string q.s] 79))) := hb.alloc HBR.out _
      clear hrow hb hkd hcap8 hmax8 hp8 hc hq hgs
      go_wp2_with (go_at_call 79; go_loud (refine (putValue_any B _ _ ⟨q.k, q.n, q.s⟩ _ HROW2.out HLK.out (by have := HBR.out; simp; omega) HVK.out).mono ?_); rintro e w8 ⟨v8, rfl, ho8, hb8⟩; obtain ⟨pv, nv, cv, hvv⟩ := ho8.shape3; subst hvv; have HO8 := hid ho8; have HB8 := hid (HBA.out.trans hb8); clear ho8 hb8)
      go_roundw
      case rel => exact ⟨k + 1, by omega, by go_num, by rw [HSU.out, ← List.append_assoc]; exact HO8.out, HB8.out⟩
      case measure => simp [intOf]; omega
    · obtain rfl : k = n := by omega
      clear hrow hb
      go_wp2
      go_ret
      refine ⟨_, rfl, ?_, HBW.out⟩
      have := HROW.out
      rw [← HNL.out, evs_all] at this
      unfold evt
      simpa [List.append_assoc] using this
end Go.Proofs.Ytepgkemnpcadiaa
