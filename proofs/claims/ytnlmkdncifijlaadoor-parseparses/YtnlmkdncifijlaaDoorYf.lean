/-
  Two patterns, two lists of patterns or operands that are the same. Two rules, and two books that are the same. Two books that are the same. The walk of ParseParses.
-/
import Derived.Test.YtnlmkdncifijlaaDoorYd
import Derived.Deep.RegionHeld3
import Derived.Test.YtnlmkdncifijlaaDoorYe
import Derived.Test.YtnlmkdncifijlaaDoorV2
namespace Go.Proofs.YtnlmkdncifijlaaDoor.Ref
open Go.ChangeShapes Go.WideShapes Go.ChangeAt Go.RowKit Go.Maps
set_option linter.unusedVariables false
set_option linter.unusedSimpArgs false
set_option maxRecDepth 20000
theorem start_n {P : Program} {ops : Array Oper} {Q : Exit → Act → World → Prop} {S : World → Prop} {id : Nat} {a : Act} {w : World} (n : Nat) (l : Array Bool) (hn : ops.size = n) (hl : Array.replicate n false = l) (hm : P.follows .mixedOrders = true) (hS : S w.drew)
    (h : S w.drew → wpAnyH P .any ops Q S n l a w.drew) : (Code.region id ops true).wp P Q a w := by
  subst hn hl
  exact wp_region_held_drew hm hS h
theorem take_mk {P : Program} {ops : Array Oper} {Q : Exit → Act → World → Prop} {md : Region.Mode} {S : World → Prop} {i : Nat} {d : _} {op : _} {t : _} {p : _} {af : _} {gd : _} {v : Value} {fuel : Nat} {listed : Array Bool} {a : Act} {w : World} (hi : ops[i]? = some (Oper.mk d op t p af gd))
    (hs : Region.noSelect ops = true) (hf : Region.free md ops listed i = true) (hr : (Region.ready md ops listed).contains i = true) (hQ : ∀ c a w, Q (.panic c) (a.put d v) w → Q (.panic c) a w) (hy : YieldsIf P ops S (Oper.mk d op t p af gd) v a) (hS : S w)
    (h : wpAnyH P md ops Q S fuel (listed.setIfInBounds i true) (a.put d v) w) : wpAnyH P md ops Q S (fuel + 1) listed a w := wpAnyH_take hi hs hf hr hQ hy hS h
theorem cons_mk {P : Program} {ops : Array Oper} {Q : Exit → Act → World → Prop} {md : Region.Mode} {S : World → Prop} {i : Nat} {d : _} {op : _} {t : _} {p : _} {af : _} {gd : _} {fuel : Nat} {listed : Array Bool} {a : Act} {w : World} {rs : List Nat} (ho : ops[i]? = some (Oper.mk d op t p af gd))
    (h : ∀ K' : Act → World → Prop, Shut (∀ a w, S w → (S w → wpAnyH P md ops Q S fuel (listed.setIfInBounds i true) a w) → K' a w) → if Region.wanted (Oper.mk d op t p af gd) (yielded ops a.tmps) = true then Oper.wp P (Oper.mk d op t p af gd) a w K' Q else K' (a.put d undef) w)
    (hs : AllReadyH P md ops Q S fuel listed a w rs) : AllReadyH P md ops Q S fuel listed a w (i :: rs) := AllReadyH.cons ho h hs
theorem Holds.bel {w w' : World} {S : Nat → Prop} {d : Dat} {v : Value} (h : Holds w S d v) (hb : Below w.heap.size w w') : Holds w' S d v := h.mono fun i hi hl => ⟨hi, hb.block i hl⟩
theorem HoldsL.bel {w w' : World} {S : Nat → Prop} {d : List Dat} {v : List Value} (h : HoldsL w S d v) (hb : Below w.heap.size w w') : HoldsL w' S d v := h.mono fun i hi hl => ⟨hi, hb.block i hl⟩
theorem below_two (w : World) (a b : Obj) : Below w.heap.size w ((w.alloc a).alloc b) := ((Below.refl _ _).alloc (Nat.le_refl _) _).alloc (by simp) _
theorem ent_pat : ∀ args w, (callFunc 54 args).run Tryd.prog w = .ok (.enter 54 args) w := enters_of Tryd.func54 (by kernel_rfl) rfl
theorem ent_rul : ∀ args w, (callFunc 25 args).run Tryd.prog w = .ok (.enter 25 args) w := enters_of Tryd.func25 (by kernel_rfl) rfl
set_option maxHeartbeats 8000000 in
theorem same_pattern (t : Pt) (ht : Wfc t.c) (w : World) (S T : Nat → Prop) (pa pb : Option Addr) (n ca cb : Nat) (hn : t.c.sb.length = n) (ha : Holds w S (.row 52 14 t.c.sb) (.slice pa n ca)) (hb : Holds w T (.row 52 14 t.c.sb) (.slice pb n cb)) :
    Calls Tryd.prog 54 #[ptV t.va t.ty t.c.k (.slice pa n ca) t.c.l t.c.r t.w t.n, ptV t.va t.ty t.c.k (.slice pb n cb) t.c.l t.c.r t.w t.n] w fun e w' => e = .returned (.bool true) ∧ Below w.heap.size w w' := by
  have hc := same_cond ht
  obtain ⟨va, ty, ⟨ck, csb, ⟨lk, lvk, lvi, lvt, lva, lfd⟩, ⟨rk, rvk, rvi, rvt, rva, rfd⟩⟩, tw, tn⟩ := t
  simp only at hn ha hb hc ⊢
  have HCL : Hid (∀ W, Below w.heap.size w W → Calls Tryd.prog 88 #[cnV ck (.slice pa n ca) ⟨lk, lvk, lvi, lvt, lva, lfd⟩ ⟨rk, rvk, rvi, rvt, rva, rfd⟩, cnV ck (.slice pb n cb) ⟨lk, lvk, lvi, lvt, lva, lfd⟩ ⟨rk, rvk, rvi, rvt, rva, rfd⟩] W fun e w' => e = .returned (.bool true) ∧ Below W.heap.size W w') := fun W hW => by
    subst hn
    exact hc W S T pa pb ca cb (Holds.bel ha hW) (Holds.bel hb hW)
  have hx1 : (va.toList == va.toList) = true := by simp
  have hx2 : (ty.toList == ty.toList) = true := by simp
  clear hc ha hb hn ht
  go_enter Tryd.func54, Tryd.ntmps54
  go_wp2_with (go_at_call 88; refine (HCL.out _ (below_two w _ _)).mono ?_; rintro e w5 ⟨rfl, hb5⟩; have HB5 : Hid (Below w.heap.size w w5) := below_trans (below_two w _ _) hb5 (by { simp; omega }); clear hb5)
  go_ret
  exact ⟨rfl, HB5.out⟩
theorem cells18 {w : World} {g o : Nat} {a b : ByteArray} {k x y : Int} {v : Value} {l r : Opd} (h : w.rangeAt g o (ptC a b k v l r x y)) : w.cell? ⟨g, o, none⟩ = some (.string a) ∧ w.cell? ⟨g, o + 1, none⟩ = some (.string b) ∧ w.cell? ⟨g, o + 2, none⟩ = some (.int .i64 k) ∧ w.cell? ⟨g, o + 3, none⟩ = some v ∧ w.cell? ⟨g, o + 4, none⟩ = some (.int .i64 l.k) ∧ w.cell? ⟨g, o + 5, none⟩ = some (.int .i64 l.vk) ∧ w.cell? ⟨g, o + 6, none⟩ = some (.int .i64 l.vi) ∧ w.cell? ⟨g, o + 7, none⟩ = some (.string l.vt) ∧ w.cell? ⟨g, o + 8, none⟩ = some (.string l.va) ∧ w.cell? ⟨g, o + 9, none⟩ = some (.string l.fd) ∧ w.cell? ⟨g, o + 10, none⟩ = some (.int .i64 r.k) ∧ w.cell? ⟨g, o + 11, none⟩ = some (.int .i64 r.vk) ∧ w.cell? ⟨g, o + 12, none⟩ = some (.int .i64 r.vi) ∧ w.cell? ⟨g, o + 13, none⟩ = some (.string r.vt) ∧ w.cell? ⟨g, o + 14, none⟩ = some (.string r.va) ∧ w.cell? ⟨g, o + 15, none⟩ = some (.string r.fd) ∧ w.cell? ⟨g, o + 16, none⟩ = some (.int .i64 x) ∧ w.cell? ⟨g, o + 17, none⟩ = some (.int .i64 y) :=
  ⟨h 0 _ rfl, h 1 _ rfl, h 2 _ rfl, h 3 _ rfl, h 4 _ rfl, h 5 _ rfl, h 6 _ rfl, h 7 _ rfl, h 8 _ rfl, h 9 _ rfl, h 10 _ rfl, h 11 _ rfl, h 12 _ rfl, h 13 _ rfl, h 14 _ rfl, h 15 _ rfl, h 16 _ rfl, h 17 _ rfl⟩
theorem range_bel {w w' : World} {g o : Nat} {l : List Value} (h : w.rangeAt g o l) (hb : Below w.drew.heap.size w.drew w') : w'.rangeAt g o l := fun j x hx => (hb.cell (p := ⟨g, o + j, none⟩) (World.block_lt_of_cell? _ _ (h j x hx))).trans (h j x hx)
theorem below_drawn {B : Nat} {a w : World} (h : Below B a w) (n : Nat) : Below B a (w.drewN n) := h.trans ⟨rfl, rfl, rfl, Nat.le_refl _, fun _ _ => rfl⟩
/-- Two rows of the same elements, side by side. -/
theorem two_rows {α : Type} {enc : α → List Dat} {e z : Nat} (hz : ∀ x, (enc x).length = z) {w : World} {S T : Nat → Prop} {u v : Value} {cs : List α} (ha : Holds w S (.row e z (cs.map enc)) u) (hb : Holds w T (.row e z (cs.map enc)) v) :
    ∃ pa ca pb cb, u = .slice pa cs.length ca ∧ v = .slice pb cs.length cb ∧ (cs.length : Int) ≤ 9223372036854775807 ∧ (0 < cs.length → ∃ ga gb, pa = some ⟨ga, 0, none⟩ ∧ pb = some ⟨gb, 0, none⟩ ∧ ∀ W, Below w.heap.size w W → ∀ k (hk : k < cs.length), ∃ us vs, W.rangeAt ga (k * z) us ∧ W.rangeAt gb (k * z) vs ∧ HoldsL W S (enc cs[k]) us ∧ HoldsL W T (enc cs[k]) vs) := by
  obtain ⟨pa, ca, rfl, h1, h2, h3⟩ := row_of hz ha
  obtain ⟨pb, cb, rfl, _, _, h4⟩ := row_of hz hb
  refine ⟨pa, ca, pb, cb, rfl, rfl, by unfold maxLen at h2; omega, fun h0 => ?_⟩
  obtain ⟨ga, rfl, u1, u2⟩ := h3 h0
  obtain ⟨gb, rfl, v1, v2⟩ := h4 h0
  refine ⟨ga, gb, rfl, rfl, fun W hW k hk => ?_⟩
  obtain ⟨us, r1, o1⟩ := u2 k hk
  obtain ⟨vs, r2, o2⟩ := v2 k hk
  exact ⟨us, vs, fun j x hx => (hW.cell (p := ⟨ga, k * z + j, none⟩) u1).trans (r1 j x hx), fun j x hx => (hW.cell (p := ⟨gb, k * z + j, none⟩) v1).trans (r2 j x hx), HoldsL.bel o1 hW, HoldsL.bel o2 hW⟩
def TwoAt {α : Type} (enc : α → List Dat) (z : Nat) (w : World) (S T : Nat → Prop) (pa pb : Option Addr) (cs : List α) : Prop := 0 < cs.length → ∃ ga gb, pa = some ⟨ga, 0, none⟩ ∧ pb = some ⟨gb, 0, none⟩ ∧ ∀ W, Below w.heap.size w W → ∀ k (hk : k < cs.length), ∃ us vs, W.rangeAt ga (k * z) us ∧ W.rangeAt gb (k * z) vs ∧ HoldsL W S (enc cs[k]) us ∧ HoldsL W T (enc cs[k]) vs
set_option maxHeartbeats 8000000 in
theorem same_patterns (l : List Pt) (hl : ∀ t, t ∈ l → Wfc t.c) (w : World) (S T : Nat → Prop) (u v : Value) (ha : Holds w S (.row 54 18 (l.map encP)) u) (hb : Holds w T (.row 54 18 (l.map encP)) v) :
    Calls Tryd.prog 52 #[u, v] w fun e w' => e = .returned (.bool true) ∧ Below w.heap.size w w' := by
  obtain ⟨pa, ca, pb, cb, rfl, rfl, hmx, h2⟩ := two_rows encP_len ha hb
  have H2 : Hid (TwoAt encP 18 w S T pa pb l) := h2
  have HWF : Hid (∀ t, t ∈ l → Wfc t.c) := hl
  obtain ⟨n, hn⟩ : ∃ n, l.length = n := ⟨_, rfl⟩
  have HN : Hid (l.length = n) := hn
  rw [hn] at hmx ⊢
  clear ha hb hl hn h2
  go_enter Tryd.func52, Tryd.ntmps52
  go_wp2_with fail
  go_loopw [5] (fun i wr => ∃ k : Nat, k ≤ n ∧ i = .int .i64 (k : Nat) ∧ Below w.heap.size w wr) (fun i _ => n + 1 - (intOf i).toNat)
  case atStart => exact ⟨0, by omega, rfl, Below.refl _ _⟩
  case round =>
    obtain ⟨k, hk, rfl, hBr⟩ := hrel
    have HBR : Hid (Below w.heap.size w wr) := hBr
    by_cases hlt : k < n
    · have hkc : k < l.length := by have := HN.out; omega
      obtain ⟨ga, gb, rfl, rfl, hrd⟩ := H2.out (by omega)
      obtain ⟨us, vs, r1, r2, o1, o2⟩ := hrd wr hBr k hkc
      obtain ⟨p1, c1, z1, d1⟩ := encP_cells o1
      obtain ⟨p2, c2, z2, d2⟩ := encP_cells o2
      subst z1 z2
      clear o1 o2
      have hcall := same_pattern l[k] (HWF.out _ (List.getElem_mem hkc)) wr.drew S T p1 p2 _ c1 c2 rfl (d1.mono fun i hi hl => ⟨hi, rfl⟩) (d2.mono fun i hi hl => ⟨hi, rfl⟩)
      obtain ⟨d, hd⟩ : ∃ d, l[k] = d := ⟨_, rfl⟩
      rw [hd] at r1 r2 hcall
      obtain ⟨va, ty, ⟨ck, csb, ⟨lk, lvk, lvi, lvt, lva, lfd⟩, ⟨rk, rvk, rvi, rvt, rva, rfd⟩⟩, tw, tn⟩ := d
      obtain ⟨m, hm⟩ : ∃ m, csb.length = m := ⟨_, rfl⟩
      simp only [hm] at r1 r2 hcall
      have HCL : Hid (Calls Tryd.prog 54 #[ptV va ty ck (.slice p1 m c1) ⟨lk, lvk, lvi, lvt, lva, lfd⟩ ⟨rk, rvk, rvi, rvt, rva, rfd⟩ tw tn, ptV va ty ck (.slice p2 m c2) ⟨lk, lvk, lvi, lvt, lva, lfd⟩ ⟨rk, rvk, rvi, rvt, rva, rfd⟩ tw tn] wr.drew fun e w' => e = .returned (.bool true) ∧ Below wr.drew.heap.size wr.drew w') := hcall
      obtain ⟨A, hA⟩ : ∃ A, ptC va ty ck (.slice p1 m c1) ⟨lk, lvk, lvi, lvt, lva, lfd⟩ ⟨rk, rvk, rvi, rvt, rva, rfd⟩ tw tn = A := ⟨_, rfl⟩
      obtain ⟨B, hB⟩ : ∃ B, ptC va ty ck (.slice p2 m c2) ⟨lk, lvk, lvi, lvt, lva, lfd⟩ ⟨rk, rvk, rvi, rvt, rva, rfd⟩ tw tn = B := ⟨_, rfl⟩
      have HCM : Hid (Calls Tryd.prog 54 #[.agg A.toArray, .agg B.toArray] wr.drew fun e w' => e = .returned (.bool true) ∧ Below wr.drew.heap.size wr.drew w') := by rw [← hA, ← hB]; exact HCL.out
      have zA : (Tryd.prog.info? 54).map (·.size) = some A.length := by rw [← hA]; kernel_rfl
      have zB : (Tryd.prog.info? 54).map (·.size) = some B.length := by rw [← hB]; kernel_rfl
      have ZA : Hid ((Tryd.prog.info? 54).map (·.size) = some A.length ∧ (Tryd.prog.info? 54).map (·.size) = some B.length) := ⟨zA, zB⟩
      have X1 : Hid (wr.rangeAt ga (k * 18) A ∧ wr.rangeAt gb (k * 18) B) := by rw [← hA, ← hB]; exact ⟨r1, r2⟩
      have i1 : (0 : Int) ≤ (k : Int) := by omega
      have i2 : (k : Int) < (n : Int) := by omega
      clear hcall r1 r2 hd hm d1 d2 hrd hBr hkc hA hB zA zB HCL
      go_wp2_with fail
      refine start_n (S := fun w' => w'.rangeAt ga (k * 18) A ∧ w'.rangeAt gb (k * 18) B) 10 #[false, false, false, false, false, false, false, false, false, false] rfl rfl (by kernel_rfl) (X1.out) (fun hHeld => ?_)
      refine take_mk (i := 0) (v := ?v1) rfl (by kernel_rfl) (by kernel_rfl) (by kernel_rfl) (fun _ _ _ h => h) (Or.inl ⟨by rfl, ?hy1⟩) (by assumption) ?rest1
      case hy1 => (intro w0 hSw; (try dsimp only at hSw); go_simp <;> (try (with_reducible rfl)))
      (try simp only [Act.put, List.setIfInBounds_toArray, List.set_cons_zero, List.set_cons_succ])
      refine take_mk (i := 1) (v := ?v2) rfl (by kernel_rfl) (by kernel_rfl) (by kernel_rfl) (fun _ _ _ h => h) (Or.inl ⟨by rfl, ?hy2⟩) (by assumption) ?rest2
      case hy2 => (intro w0 hSw; (try dsimp only at hSw); go_simp <;> (try (with_reducible rfl)))
      (try simp only [Act.put, List.setIfInBounds_toArray, List.set_cons_zero, List.set_cons_succ])
      refine take_mk (i := 2) (v := ?v3) rfl (by kernel_rfl) (by kernel_rfl) (by kernel_rfl) (fun _ _ _ h => h) (Or.inl ⟨by rfl, ?hy3⟩) (by assumption) ?rest3
      case hy3 => (intro w0 hSw; (try dsimp only at hSw); go_simp <;> (try (with_reducible rfl)))
      (try simp only [Act.put, List.setIfInBounds_toArray, List.set_cons_zero, List.set_cons_succ])
      refine take_mk (i := 3) rfl (by kernel_rfl) (by kernel_rfl) (by kernel_rfl) (fun _ _ _ h => h) (yieldsIf_load_mid (by rfl) 54 _ rfl ga (k * 18) (by rfl) A _ (fun _ h => h.1) Tryd.underlying54 rfl ZA.out.1) (by assumption) ?_
      (try simp only [Act.put, List.setIfInBounds_toArray, List.set_cons_zero, List.set_cons_succ])
      refine take_mk (i := 4) (v := ?v4) rfl (by kernel_rfl) (by kernel_rfl) (by kernel_rfl) (fun _ _ _ h => h) (Or.inl ⟨by rfl, ?hy4⟩) (by assumption) ?rest4
      case hy4 => (intro w0 hSw; (try dsimp only at hSw); go_simp <;> (try (with_reducible rfl)))
      (try simp only [Act.put, List.setIfInBounds_toArray, List.set_cons_zero, List.set_cons_succ])
      refine take_mk (i := 5) (v := ?v5) rfl (by kernel_rfl) (by kernel_rfl) (by kernel_rfl) (fun _ _ _ h => h) (Or.inl ⟨by rfl, ?hy5⟩) (by assumption) ?rest5
      case hy5 => (intro w0 hSw; (try dsimp only at hSw); go_simp <;> (try (with_reducible rfl)))
      (try simp only [Act.put, List.setIfInBounds_toArray, List.set_cons_zero, List.set_cons_succ])
      refine take_mk (i := 6) (v := ?v6) rfl (by kernel_rfl) (by kernel_rfl) (by kernel_rfl) (fun _ _ _ h => h) (Or.inl ⟨by rfl, ?hy6⟩) (by assumption) ?rest6
      case hy6 => (intro w0 hSw; (try dsimp only at hSw); go_simp <;> (try (with_reducible rfl)))
      (try simp only [Act.put, List.setIfInBounds_toArray, List.set_cons_zero, List.set_cons_succ])
      refine take_mk (i := 7) rfl (by kernel_rfl) (by kernel_rfl) (by kernel_rfl) (fun _ _ _ h => h) (yieldsIf_load_mid (by rfl) 54 _ rfl gb (k * 18) (by rfl) B _ (fun _ h => h.2) Tryd.underlying54 rfl ZA.out.2) (by assumption) ?_
      (try simp only [Act.put, List.setIfInBounds_toArray, List.set_cons_zero, List.set_cons_succ])
      refine wpAnyH_ready (rs := [8]) (by kernel_rfl) (by simp) ?_
      refine cons_mk rfl (fun K hK => ?_) AllReadyH.nil
      refine step_call2 54 ent_pat (by rfl) _ _ _ (by rfl) (.agg A.toArray) (.agg B.toArray) (by rfl) (by rfl) _ HCM.out ?_
      rintro e w5 ⟨rfl, hb5⟩
      refine ⟨_, rfl, ?_⟩
      have HB5 : Hid (Below w.heap.size w w5) := below_trans HBR.out.drew hb5 HBR.out.drew.size
      have Q1 : Hid (w5.rangeAt ga (k * 18) A ∧ w5.rangeAt gb (k * 18) B) := ⟨range_bel X1.out.1 hb5, range_bel X1.out.2 hb5⟩
      clear hb5
      refine hK.out _ _ (Q1.out) (fun hHeld => ?_)
      clear hK K
      (try simp only [Act.put, List.setIfInBounds_toArray, List.set_cons_zero, List.set_cons_succ])
      refine take_mk (i := 9) (v := ?v7) rfl (by kernel_rfl) (by kernel_rfl) (by kernel_rfl) (fun _ _ _ h => h) (Or.inl ⟨by rfl, ?hy7⟩) (by assumption) ?rest7
      case hy7 => (intro w0 hSw; (try dsimp only at hSw); go_simp <;> (try (with_reducible rfl)))
      (try simp only [Act.put, List.setIfInBounds_toArray, List.set_cons_zero, List.set_cons_succ])
      refine wpAnyH_done (by kernel_rfl) ?_ _
      clear hHeld
      go_wp2_with fail
      go_roundw
      case rel => exact ⟨k + 1, by omega, by go_num, HB5.out⟩
      case measure => simp [intOf]; omega
    · obtain rfl : k = n := by omega
      go_wp2_with fail
      go_ret
      exact ⟨rfl, HBR.out⟩
theorem encO_cells {w : World} {S : Nat → Prop} {o : Opd} {vs : List Value} (h : HoldsL w S (encO o) vs) : vs = [.int .i64 o.k, .int .i64 o.vk, .int .i64 o.vi, .string o.vt, .string o.va, .string o.fd] := by
  obtain ⟨v0, r0, rfl, h0, h⟩ := h.one
  obtain ⟨v1, r1, rfl, h1, h⟩ := h.one
  obtain ⟨v2, r2, rfl, h2, h⟩ := h.one
  obtain ⟨v3, r3, rfl, h3, h⟩ := h.one
  obtain ⟨v4, r4, rfl, h4, h⟩ := h.one
  obtain ⟨v5, r5, rfl, h5, h⟩ := h.one
  rw [lit_out h0, lit_out h1, lit_out h2, lit_out h3, lit_out h4, lit_out h5, h.none]
set_option maxHeartbeats 8000000 in
theorem same_operands (l : List Opd) (w : World) (S T : Nat → Prop) (u v : Value) (ha : Holds w S (.row 50 6 (l.map encO)) u) (hb : Holds w T (.row 50 6 (l.map encO)) v) :
    Calls Tryd.prog 53 #[u, v] w fun e w' => e = .returned (.bool true) ∧ Below w.heap.size w w' := by
  obtain ⟨pa, ca, pb, cb, rfl, rfl, hmx, h2⟩ := two_rows encO_len ha hb
  have H2 : Hid (TwoAt encO 6 w S T pa pb l) := h2
  obtain ⟨n, hn⟩ : ∃ n, l.length = n := ⟨_, rfl⟩
  have HN : Hid (l.length = n) := hn
  rw [hn] at hmx ⊢
  clear ha hb hn h2
  go_enter Tryd.func53, Tryd.ntmps53
  go_wp2_with fail
  go_loopw [5] (fun i wr => ∃ k : Nat, k ≤ n ∧ i = .int .i64 (k : Nat) ∧ Below w.heap.size w wr) (fun i _ => n + 1 - (intOf i).toNat)
  case atStart => exact ⟨0, by omega, rfl, Below.refl _ _⟩
  case round =>
    obtain ⟨k, hk, rfl, hBr⟩ := hrel
    have HBR : Hid (Below w.heap.size w wr) := hBr
    by_cases hlt : k < n
    · have hkc : k < l.length := by have := HN.out; omega
      obtain ⟨ga, gb, rfl, rfl, hrd⟩ := H2.out (by omega)
      obtain ⟨us, vs, r1, r2, o1, o2⟩ := hrd wr hBr k hkc
      have z1 := encO_cells o1
      have z2 := encO_cells o2
      subst z1 z2
      obtain ⟨d, hd⟩ : ∃ d, l[k] = d := ⟨_, rfl⟩
      rw [hd] at r1 r2
      obtain ⟨lk, lvk, lvi, lvt, lva, lfd⟩ := d
      have a0 := r1 0 _ rfl
      have a1 := r1 1 _ rfl
      have a2 := r1 2 _ rfl
      have a3 := r1 3 _ rfl
      have a4 := r1 4 _ rfl
      have a5 := r1 5 _ rfl
      have b0 := r2 0 _ rfl
      have b1 := r2 1 _ rfl
      have b2 := r2 2 _ rfl
      have b3 := r2 3 _ rfl
      have b4 := r2 4 _ rfl
      have b5 := r2 5 _ rfl
      simp only [Nat.add_zero] at a0 b0
      have i1 : (0 : Int) ≤ (k : Int) := by omega
      have i2 : (k : Int) < (n : Int) := by omega
      clear r1 r2 hd o1 o2 hrd hBr hkc
      go_wp2_with fail
      go_quiet (fail)
      go_wp2_with fail
      go_roundw
      case rel => exact ⟨k + 1, by omega, by go_num, below_drawn HBR.out _⟩
      case measure => simp [intOf]; omega
    · obtain rfl : k = n := by omega
      go_wp2_with fail
      go_ret
      exact ⟨rfl, HBR.out⟩
end Go.Proofs.YtnlmkdncifijlaaDoor.Ref
namespace Go.Proofs.YtnlmkdncifijlaaDoor.Ref
open Go.ChangeShapes Go.WideShapes Go.ChangeAt Go.RowKit Go.Maps
set_option linter.unusedVariables false
set_option linter.unusedSimpArgs false
set_option maxRecDepth 20000
theorem encM_cells {w : World} {S : Nat → Prop} {m : Mn} {vs : List Value} (h : HoldsL w S (encM m) vs) : ∃ us, vs = .int .i64 m.c :: .string m.f :: us ∧ HoldsL w S (encP m.p) us := by
  obtain ⟨v0, r0, rfl, h0, h⟩ := h.one
  obtain ⟨v1, r1, rfl, h1, h⟩ := h.one
  rw [lit_out h0, lit_out h1]
  exact ⟨r1, rfl, h⟩
theorem encK_cells {w : World} {S : Nat → Prop} {k : Lk} {vs : List Value} (h : HoldsL w S (encK k) vs) : ∃ v, vs = lkC k.l v k.r ∧ Holds w S (.row 59 3 (k.o.map encQ)) v := by
  obtain ⟨v0, r0, rfl, h0, h⟩ := h.one
  obtain ⟨v1, r1, rfl, h1, h⟩ := h.one
  obtain ⟨v2, r2, rfl, h2, h⟩ := h.one
  rw [lit_out h0, lit_out h2, h.none]
  exact ⟨v1, rfl, h1⟩
theorem encQ_cells {w : World} {S : Nat → Prop} {o : Op3} {vs : List Value} (h : HoldsL w S (encQ o) vs) : vs = [.int .i64 o.r, .int .i64 o.lo, .int .i64 o.hi] := by
  obtain ⟨v0, r0, rfl, h0, h⟩ := h.one
  obtain ⟨v1, r1, rfl, h1, h⟩ := h.one
  obtain ⟨v2, r2, rfl, h2, h⟩ := h.one
  rw [lit_out h0, lit_out h1, lit_out h2, h.none]
theorem encF_cells {w : World} {S : Nat → Prop} {o : Fd} {vs : List Value} (h : HoldsL w S (encF o) vs) : vs = [.string o.n, .int .i64 o.k] := by
  obtain ⟨v0, r0, rfl, h0, h⟩ := h.one
  obtain ⟨v1, r1, rfl, h1, h⟩ := h.one
  rw [lit_out h0, lit_out h1, h.none]
theorem encY_cells {w : World} {S : Nat → Prop} {t : Tp} {vs : List Value} (h : HoldsL w S (encY t) vs) : ∃ v, vs = [.string t.n, v] ∧ Holds w S (.row 80 2 (t.f.map encF)) v := by
  obtain ⟨v0, r0, rfl, h0, h⟩ := h.one
  obtain ⟨v1, r1, rfl, h1, h⟩ := h.one
  rw [lit_out h0, h.none]
  exact ⟨v1, rfl, h1⟩
theorem encR_cells {w : World} {S : Nat → Prop} {r : Rl} {vs : List Value} (h : HoldsL w S (encR r) vs) : ∃ v1 v2 v3 v4 v5, vs = ruC r.n v1 v2 v3 v4 r.e.ty v5 ∧ Holds w S (.row 54 18 (r.w.map encP)) v1 ∧ Holds w S (.row 54 18 (r.t.map encP)) v2 ∧ Holds w S (.row 107 20 (r.m.map encM)) v3 ∧ Holds w S (.row 62 3 (r.k.map encK)) v4 ∧ Holds w S (.row 50 6 (r.e.v.map encO)) v5 := by
  obtain ⟨v0, r0, rfl, h0, h⟩ := h.one
  obtain ⟨v1, r1, rfl, h1, h⟩ := h.one
  obtain ⟨v2, r2, rfl, h2, h⟩ := h.one
  obtain ⟨v3, r3, rfl, h3, h⟩ := h.one
  obtain ⟨v4, r4, rfl, h4, h⟩ := h.one
  obtain ⟨v5, r5, rfl, h5, h⟩ := h.one
  obtain ⟨v6, r6, rfl, h6, h⟩ := h.one
  rw [lit_out h0, lit_out h5, h.none]
  exact ⟨v1, v2, v3, v4, v6, rfl, h1, h2, h3, h4, h6⟩
/-- Two structs in new blocks, and what was there ahead of them. -/
structure Two (w0 w : World) (us vs : List Value) (ty : TypeId) : Prop where
  bel : Below w0.heap.size w0 w
  b1 : w.heap[w0.heap.size]? = some (.cells us.toArray ty (0, 0))
  b2 : w.heap[w0.heap.size + 1]? = some (.cells vs.toArray ty (0, 0))
theorem Two.start (w : World) (us vs : List Value) (ty : TypeId) : Two w ((w.alloc (.cells us.toArray ty)).alloc (.cells vs.toArray ty)) us vs ty :=
  ⟨below_two w _ _, (Below.heap_alloc _ _ _ (by simp)).trans (heap_alloc_new _ _), heap_2 _ _ _⟩
theorem Two.next {w0 w w' : World} {us vs : List Value} {ty : TypeId} (h : Two w0 w us vs ty) (hb : Below w.heap.size w w') : Two w0 w' us vs ty :=
  ⟨below_trans h.bel hb h.bel.size, (hb.block _ (blk_lt h.b1)).trans h.b1, (hb.block _ (blk_lt h.b2)).trans h.b2⟩
theorem Two.drew {w0 w : World} {us vs : List Value} {ty : TypeId} (h : Two w0 w us vs ty) : Two w0 w.drew us vs ty := ⟨h.bel.drew, h.b1, h.b2⟩
theorem Two.drewN {w0 w : World} {us vs : List Value} {ty : TypeId} (h : Two w0 w us vs ty) (n : Nat) : Two w0 (w.drewN n) us vs ty := ⟨below_drawn h.bel n, by rw [drewN_heap]; exact h.b1, by rw [drewN_heap]; exact h.b2⟩
theorem Two.alloc {w0 w : World} {us vs : List Value} {ty : TypeId} (h : Two w0 w us vs ty) (o : Obj) : Two w0 (w.alloc o) us vs ty := h.next ((Below.refl _ _).alloc (Nat.le_refl _) _)
theorem Two.c1 {w0 w : World} {us vs : List Value} {ty : TypeId} (h : Two w0 w us vs ty) (j : Nat) : w.cell? ⟨w0.heap.size, j, none⟩ = us[j]? := by rw [cell_of_blk h.b1]; simp
theorem Two.c2 {w0 w : World} {us vs : List Value} {ty : TypeId} (h : Two w0 w us vs ty) (j : Nat) : w.cell? ⟨w0.heap.size + 1, j, none⟩ = vs[j]? := by rw [cell_of_blk h.b2]; simp
theorem range_drop {w : World} {g o : Nat} {a b : Value} {l : List Value} (h : w.rangeAt g o (a :: b :: l)) : w.rangeAt g (o + 2) l := fun j x hx => by
  have := h (j + 2) x (by simpa using hx)
  rw [show o + 2 + j = o + (j + 2) by omega]
  exact this
theorem cell_bel {w w' : World} {p : Addr} {v : Value} (h : w.cell? p = some v) (hb : Below w.drew.heap.size w.drew w') : w'.cell? p = some v := (hb.cell (World.block_lt_of_cell? _ _ h)).trans h
theorem step_call2g {ops : Array Oper} {o : Oper} {a : Act} {w : World} {K : Act → World → Prop} {Q : Exit → Act → World → Prop} {E : Prop} (f : FuncId) (he : ∀ args w, (callFunc f args).run Tryd.prog w = .ok (.enter f args) w) (hw : Region.wanted o (yielded ops a.tmps) = true) (s x : Operand) (ts : Array TypeId) (ho : o.op = .call { callee := .value (.func f), args := #[s, x], argTypes := ts }) (u1 u2 : Value) (h1 : a.eval s = u1) (h2 : a.eval x = u2)
    (R : Ending → World → Prop) (hc : Calls Tryd.prog f #[u1, u2] w R) (h : ∀ e w', R e w' → ∃ v, e = .returned v ∧ K (a.put o.dst v) w') :
    if Region.wanted o (yielded ops a.tmps) = true then Oper.wp Tryd.prog o a w K Q else E := by
  rw [if_pos hw]
  unfold Oper.wp execOp
  have hf : a.eval (.func f) = Value.func (Fn.func f) #[] #[] := rfl
  simp [ho, resolve, invoke, Deferred.ofValue, hf, h1, h2, he]
  refine hc.mono ?_
  intro e w' hr
  obtain ⟨v, rfl, hk⟩ := h e w' hr
  exact hk
set_option maxHeartbeats 32000000 in
theorem same_rule (r : Rl) (hr : WfR r) (w : World) (S T : Nat → Prop) (us vs : List Value) (ha : HoldsL w S (encR r) us) (hb : HoldsL w T (encR r) vs) : Calls Tryd.prog 25 #[.agg us.toArray, .agg vs.toArray] w fun e w' => e = .returned (.bool true) ∧ Below w.heap.size w w' := by
  obtain ⟨u1, u2, u3, u4, u5, e0, ha1, ha2, ha3, ha4, ha5⟩ := encR_cells ha
  obtain ⟨v1, v2, v3, v4, v5, d0, hb1, hb2, hb3, hb4, hb5⟩ := encR_cells hb
  clear ha hb
  subst e0 d0
  obtain ⟨rn, rw_, rt, rm, rk, ⟨ety, rev⟩⟩ := r
  simp only at ha1 ha2 ha3 ha4 ha5 hb1 hb2 hb3 hb4 hb5 ⊢
  obtain ⟨q1, j1, x1, z1, e1, d1, m1, h21⟩ := two_rows encP_len ha1 hb1
  subst e1 d1
  obtain ⟨l1, hl1⟩ : ∃ l, (rw_).length = l := ⟨_, rfl⟩
  have HL1 : Hid ((rw_).length = l1) := hl1
  have H21 : Hid (TwoAt encP 18 w S T q1 x1 (rw_)) := h21
  rw [hl1] at m1 ha1 hb1
  rw [hl1]
  clear hl1 h21
  obtain ⟨q2, j2, x2, z2, e2, d2, m2, h22⟩ := two_rows encP_len ha2 hb2
  subst e2 d2
  obtain ⟨l2, hl2⟩ : ∃ l, (rt).length = l := ⟨_, rfl⟩
  have HL2 : Hid ((rt).length = l2) := hl2
  have H22 : Hid (TwoAt encP 18 w S T q2 x2 (rt)) := h22
  rw [hl2] at m2 ha2 hb2
  rw [hl2]
  clear hl2 h22
  obtain ⟨q3, j3, x3, z3, e3, d3, m3, h23⟩ := two_rows encM_len ha3 hb3
  subst e3 d3
  obtain ⟨l3, hl3⟩ : ∃ l, (rm).length = l := ⟨_, rfl⟩
  have HL3 : Hid ((rm).length = l3) := hl3
  have H23 : Hid (TwoAt encM 20 w S T q3 x3 (rm)) := h23
  rw [hl3] at m3 ha3 hb3
  rw [hl3]
  clear hl3 h23
  obtain ⟨q4, j4, x4, z4, e4, d4, m4, h24⟩ := two_rows encK_len ha4 hb4
  subst e4 d4
  obtain ⟨l4, hl4⟩ : ∃ l, (rk).length = l := ⟨_, rfl⟩
  have HL4 : Hid ((rk).length = l4) := hl4
  have H24 : Hid (TwoAt encK 3 w S T q4 x4 (rk)) := h24
  rw [hl4] at m4 ha4 hb4
  rw [hl4]
  clear hl4 h24
  obtain ⟨q5, j5, x5, z5, e5, d5, m5, h25⟩ := two_rows encO_len ha5 hb5
  subst e5 d5
  obtain ⟨l5, hl5⟩ : ∃ l, (rev).length = l := ⟨_, rfl⟩
  have HL5 : Hid ((rev).length = l5) := hl5
  have H25 : Hid (TwoAt encO 6 w S T q5 x5 (rev)) := h25
  rw [hl5] at m5 ha5 hb5
  rw [hl5]
  clear hl5 h25
  have HWF : Hid (WfR ⟨rn, rw_, rt, rm, rk, ⟨ety, rev⟩⟩) := hr
  have HP1 : Hid (∀ W, Below w.heap.size w W → Calls Tryd.prog 52 #[(.slice q1 l1 j1), (.slice x1 l1 z1)] W fun e w' => e = .returned (.bool true) ∧ Below W.heap.size W w') := fun W hW => same_patterns rw_ hr.1 W S T _ _ (Holds.bel ha1 hW) (Holds.bel hb1 hW)
  have HP2 : Hid (∀ W, Below w.heap.size w W → Calls Tryd.prog 52 #[(.slice q2 l2 j2), (.slice x2 l2 z2)] W fun e w' => e = .returned (.bool true) ∧ Below W.heap.size W w') := fun W hW => same_patterns rt hr.2.1 W S T _ _ (Holds.bel ha2 hW) (Holds.bel hb2 hW)
  have HP3 : Hid (∀ W, Below w.heap.size w W → Calls Tryd.prog 53 #[(.slice q5 l5 j5), (.slice x5 l5 z5)] W fun e w' => e = .returned (.bool true) ∧ Below W.heap.size W w') := fun W hW => same_operands rev W S T _ _ (Holds.bel ha5 hW) (Holds.bel hb5 hW)
  have HT1 : Hid (Two w ((w.alloc (.cells (ruC rn (.slice q1 l1 j1) (.slice q2 l2 j2) (.slice q3 l3 j3) (.slice q4 l4 j4) (ety) (.slice q5 l5 j5)).toArray 44)).alloc (.cells (ruC rn (.slice x1 l1 z1) (.slice x2 l2 z2) (.slice x3 l3 z3) (.slice x4 l4 z4) (ety) (.slice x5 l5 z5)).toArray 44)) (ruC rn (.slice q1 l1 j1) (.slice q2 l2 j2) (.slice q3 l3 j3) (.slice q4 l4 j4) (ety) (.slice q5 l5 j5)) (ruC rn (.slice x1 l1 z1) (.slice x2 l2 z2) (.slice x3 l3 z3) (.slice x4 l4 z4) (ety) (.slice x5 l5 z5)) 44) := Two.start w _ _ _
  have hx1 : (rn.toList == rn.toList) = true := by simp
  have hx2 : (ety.toList == ety.toList) = true := by simp
  clear hr ha1 ha2 ha3 ha4 ha5 hb1 hb2 hb3 hb4 hb5 H21 H22 H25 HL1 HL2 HL5
  go_enter Tryd.func25, Tryd.ntmps25
  go_wp2_with (first
      | (go_at_call_of 53 (Value.slice q5 l5 j5); refine (HP3.out _ HT3.out.bel).mono ?_; rintro e w4 ⟨rfl, hb_⟩; have HT4 : Hid (Two w w4 (ruC rn (.slice q1 l1 j1) (.slice q2 l2 j2) (.slice q3 l3 j3) (.slice q4 l4 j4) (ety) (.slice q5 l5 j5)) (ruC rn (.slice x1 l1 z1) (.slice x2 l2 z2) (.slice x3 l3 z3) (.slice x4 l4 z4) (ety) (.slice x5 l5 z5)) 44) := HT3.out.next hb_; have a0_w4 : w4.cell? ⟨w.heap.size, 0, none⟩ = some (.string rn) := HT4.out.c1 0; have b0_w4 : w4.cell? ⟨w.heap.size + 1, 0, none⟩ = some (.string rn) := HT4.out.c2 0; have a1_w4 : w4.cell? ⟨w.heap.size, 1, none⟩ = some (.slice q1 l1 j1) := HT4.out.c1 1; have b1_w4 : w4.cell? ⟨w.heap.size + 1, 1, none⟩ = some (.slice x1 l1 z1) := HT4.out.c2 1; have a2_w4 : w4.cell? ⟨w.heap.size, 2, none⟩ = some (.slice q2 l2 j2) := HT4.out.c1 2; have b2_w4 : w4.cell? ⟨w.heap.size + 1, 2, none⟩ = some (.slice x2 l2 z2) := HT4.out.c2 2; have a3_w4 : w4.cell? ⟨w.heap.size, 3, none⟩ = some (.slice q3 l3 j3) := HT4.out.c1 3; have b3_w4 : w4.cell? ⟨w.heap.size + 1, 3, none⟩ = some (.slice x3 l3 z3) := HT4.out.c2 3; have a4_w4 : w4.cell? ⟨w.heap.size, 4, none⟩ = some (.slice q4 l4 j4) := HT4.out.c1 4; have b4_w4 : w4.cell? ⟨w.heap.size + 1, 4, none⟩ = some (.slice x4 l4 z4) := HT4.out.c2 4; have a5_w4 : w4.cell? ⟨w.heap.size, 5, none⟩ = some (.string ety) := HT4.out.c1 5; have b5_w4 : w4.cell? ⟨w.heap.size + 1, 5, none⟩ = some (.string ety) := HT4.out.c2 5; have a6_w4 : w4.cell? ⟨w.heap.size, 6, none⟩ = some (.slice q5 l5 j5) := HT4.out.c1 6; have b6_w4 : w4.cell? ⟨w.heap.size + 1, 6, none⟩ = some (.slice x5 l5 z5) := HT4.out.c2 6; clear hb_)
      | (go_at_call_of 52 (Value.slice q2 l2 j2); refine (HP2.out _ HT2.out.bel).mono ?_; rintro e w3 ⟨rfl, hb_⟩; have HT3 : Hid (Two w w3 (ruC rn (.slice q1 l1 j1) (.slice q2 l2 j2) (.slice q3 l3 j3) (.slice q4 l4 j4) (ety) (.slice q5 l5 j5)) (ruC rn (.slice x1 l1 z1) (.slice x2 l2 z2) (.slice x3 l3 z3) (.slice x4 l4 z4) (ety) (.slice x5 l5 z5)) 44) := HT2.out.next hb_; have a0_w3 : w3.cell? ⟨w.heap.size, 0, none⟩ = some (.string rn) := HT3.out.c1 0; have b0_w3 : w3.cell? ⟨w.heap.size + 1, 0, none⟩ = some (.string rn) := HT3.out.c2 0; have a1_w3 : w3.cell? ⟨w.heap.size, 1, none⟩ = some (.slice q1 l1 j1) := HT3.out.c1 1; have b1_w3 : w3.cell? ⟨w.heap.size + 1, 1, none⟩ = some (.slice x1 l1 z1) := HT3.out.c2 1; have a2_w3 : w3.cell? ⟨w.heap.size, 2, none⟩ = some (.slice q2 l2 j2) := HT3.out.c1 2; have b2_w3 : w3.cell? ⟨w.heap.size + 1, 2, none⟩ = some (.slice x2 l2 z2) := HT3.out.c2 2; have a3_w3 : w3.cell? ⟨w.heap.size, 3, none⟩ = some (.slice q3 l3 j3) := HT3.out.c1 3; have b3_w3 : w3.cell? ⟨w.heap.size + 1, 3, none⟩ = some (.slice x3 l3 z3) := HT3.out.c2 3; have a4_w3 : w3.cell? ⟨w.heap.size, 4, none⟩ = some (.slice q4 l4 j4) := HT3.out.c1 4; have b4_w3 : w3.cell? ⟨w.heap.size + 1, 4, none⟩ = some (.slice x4 l4 z4) := HT3.out.c2 4; have a5_w3 : w3.cell? ⟨w.heap.size, 5, none⟩ = some (.string ety) := HT3.out.c1 5; have b5_w3 : w3.cell? ⟨w.heap.size + 1, 5, none⟩ = some (.string ety) := HT3.out.c2 5; have a6_w3 : w3.cell? ⟨w.heap.size, 6, none⟩ = some (.slice q5 l5 j5) := HT3.out.c1 6; have b6_w3 : w3.cell? ⟨w.heap.size + 1, 6, none⟩ = some (.slice x5 l5 z5) := HT3.out.c2 6; clear hb_)
      | (go_at_call_of 52 (Value.slice q1 l1 j1); refine (HP1.out _ HT1.out.bel).mono ?_; rintro e w2 ⟨rfl, hb_⟩; have HT2 : Hid (Two w w2 (ruC rn (.slice q1 l1 j1) (.slice q2 l2 j2) (.slice q3 l3 j3) (.slice q4 l4 j4) (ety) (.slice q5 l5 j5)) (ruC rn (.slice x1 l1 z1) (.slice x2 l2 z2) (.slice x3 l3 z3) (.slice x4 l4 z4) (ety) (.slice x5 l5 z5)) 44) := HT1.out.next hb_; have a0_w2 : w2.cell? ⟨w.heap.size, 0, none⟩ = some (.string rn) := HT2.out.c1 0; have b0_w2 : w2.cell? ⟨w.heap.size + 1, 0, none⟩ = some (.string rn) := HT2.out.c2 0; have a1_w2 : w2.cell? ⟨w.heap.size, 1, none⟩ = some (.slice q1 l1 j1) := HT2.out.c1 1; have b1_w2 : w2.cell? ⟨w.heap.size + 1, 1, none⟩ = some (.slice x1 l1 z1) := HT2.out.c2 1; have a2_w2 : w2.cell? ⟨w.heap.size, 2, none⟩ = some (.slice q2 l2 j2) := HT2.out.c1 2; have b2_w2 : w2.cell? ⟨w.heap.size + 1, 2, none⟩ = some (.slice x2 l2 z2) := HT2.out.c2 2; have a3_w2 : w2.cell? ⟨w.heap.size, 3, none⟩ = some (.slice q3 l3 j3) := HT2.out.c1 3; have b3_w2 : w2.cell? ⟨w.heap.size + 1, 3, none⟩ = some (.slice x3 l3 z3) := HT2.out.c2 3; have a4_w2 : w2.cell? ⟨w.heap.size, 4, none⟩ = some (.slice q4 l4 j4) := HT2.out.c1 4; have b4_w2 : w2.cell? ⟨w.heap.size + 1, 4, none⟩ = some (.slice x4 l4 z4) := HT2.out.c2 4; have a5_w2 : w2.cell? ⟨w.heap.size, 5, none⟩ = some (.string ety) := HT2.out.c1 5; have b5_w2 : w2.cell? ⟨w.heap.size + 1, 5, none⟩ = some (.string ety) := HT2.out.c2 5; have a6_w2 : w2.cell? ⟨w.heap.size, 6, none⟩ = some (.slice q5 l5 j5) := HT2.out.c1 6; have b6_w2 : w2.cell? ⟨w.heap.size + 1, 6, none⟩ = some (.slice x5 l5 z5) := HT2.out.c2 6; clear hb_))
  clear HP1 HP2 HP3 HT1 HT2 HT3 a0_w2 b0_w2 a1_w2 b1_w2 a2_w2 b2_w2 a3_w2 b3_w2 a4_w2 b4_w2 a5_w2 b5_w2 a6_w2 b6_w2 a0_w3 b0_w3 a1_w3 b1_w3 a2_w3 b2_w3 a3_w3 b3_w3 a4_w3 b4_w3 a5_w3 b5_w3 a6_w3 b6_w3 a0_w4 b0_w4 a1_w4 b1_w4 a2_w4 b2_w4 a3_w4 b3_w4 a4_w4 b4_w4 a5_w4 b5_w4 a6_w4 b6_w4
  go_loopw [5] (fun i wr => ∃ k : Nat, k ≤ l3 ∧ i = .int .i64 (k : Nat) ∧ Two w wr (ruC rn (.slice q1 l1 j1) (.slice q2 l2 j2) (.slice q3 l3 j3) (.slice q4 l4 j4) (ety) (.slice q5 l5 j5)) (ruC rn (.slice x1 l1 z1) (.slice x2 l2 z2) (.slice x3 l3 z3) (.slice x4 l4 z4) (ety) (.slice x5 l5 z5)) 44) (fun i _ => l3 + 1 - (intOf i).toNat)
  case atStart => exact ⟨0, by omega, rfl, HT4.out⟩
  case round =>
    obtain ⟨k, hk, rfl, hTr⟩ := hrel
    have HT : Hid (Two w wr (ruC rn (.slice q1 l1 j1) (.slice q2 l2 j2) (.slice q3 l3 j3) (.slice q4 l4 j4) (ety) (.slice q5 l5 j5)) (ruC rn (.slice x1 l1 z1) (.slice x2 l2 z2) (.slice x3 l3 z3) (.slice x4 l4 z4) (ety) (.slice x5 l5 z5)) 44) := hTr
    by_cases hlt : k < l3
    · have hkc : k < rm.length := by have := HL3.out; omega
      obtain ⟨ga, gb, hq, hx, hrd⟩ := H23.out (by omega)
      have HQ : Hid (q3 = some ⟨ga, 0, none⟩ ∧ x3 = some ⟨gb, 0, none⟩) := ⟨hq, hx⟩
      have a3 : wr.cell? ⟨w.heap.size, 3, none⟩ = some (.slice (some ⟨ga, 0, none⟩) l3 j3) := by rw [← hq]; exact hTr.c1 3
      have b3 : wr.cell? ⟨w.heap.size + 1, 3, none⟩ = some (.slice (some ⟨gb, 0, none⟩) l3 z3) := by rw [← hx]; exact hTr.c2 3
      clear hq hx
      obtain ⟨us, vs, r1, r2, o1, o2⟩ := hrd wr hTr.bel k hkc
      obtain ⟨us', y1, o3⟩ := encM_cells o1
      obtain ⟨vs', y2, o4⟩ := encM_cells o2
      subst y1 y2
      obtain ⟨p1, c1, y3, g1⟩ := encP_cells o3
      obtain ⟨p2, c2, y4, g2⟩ := encP_cells o4
      have hcall := same_pattern rm[k].p (HWF.out.2.2 _ (List.getElem_mem hkc)) wr.drew S T p1 p2 _ c1 c2 rfl (g1.mono fun i hi hl => ⟨hi, rfl⟩) (g2.mono fun i hi hl => ⟨hi, rfl⟩)
      clear o1 o2 o3 o4
      subst y3 y4
      have zA : (Tryd.prog.info? 54).map (·.size) = some (ptC rm[k].p.va rm[k].p.ty rm[k].p.c.k (.slice p1 rm[k].p.c.sb.length c1) rm[k].p.c.l rm[k].p.c.r rm[k].p.w rm[k].p.n).length := by kernel_rfl
      have zB : (Tryd.prog.info? 54).map (·.size) = some (ptC rm[k].p.va rm[k].p.ty rm[k].p.c.k (.slice p2 rm[k].p.c.sb.length c2) rm[k].p.c.l rm[k].p.c.r rm[k].p.w rm[k].p.n).length := by kernel_rfl
      have hc9 : Calls Tryd.prog 54 #[.agg (ptC rm[k].p.va rm[k].p.ty rm[k].p.c.k (.slice p1 rm[k].p.c.sb.length c1) rm[k].p.c.l rm[k].p.c.r rm[k].p.w rm[k].p.n).toArray, .agg (ptC rm[k].p.va rm[k].p.ty rm[k].p.c.k (.slice p2 rm[k].p.c.sb.length c2) rm[k].p.c.l rm[k].p.c.r rm[k].p.w rm[k].p.n).toArray] wr.drew fun e w' => e = .returned (.bool true) ∧ Below wr.drew.heap.size wr.drew w' := hcall
      have n1 := r1 0 _ rfl
      have n2 := r1 1 _ rfl
      have n3 := r2 0 _ rfl
      have n4 := r2 1 _ rfl
      simp only [Nat.add_zero] at n1 n3
      have r3 := range_drop r1
      have r4 := range_drop r2
      obtain ⟨A, hA⟩ : ∃ A, ptC rm[k].p.va rm[k].p.ty rm[k].p.c.k (.slice p1 rm[k].p.c.sb.length c1) rm[k].p.c.l rm[k].p.c.r rm[k].p.w rm[k].p.n = A := ⟨_, rfl⟩
      obtain ⟨B, hB⟩ : ∃ B, ptC rm[k].p.va rm[k].p.ty rm[k].p.c.k (.slice p2 rm[k].p.c.sb.length c2) rm[k].p.c.l rm[k].p.c.r rm[k].p.w rm[k].p.n = B := ⟨_, rfl⟩
      rw [hA] at zA hc9 r3
      rw [hB] at zB hc9 r4
      obtain ⟨mc, hmc⟩ : ∃ mc, rm[k].c = mc := ⟨_, rfl⟩
      obtain ⟨mf, hmf⟩ : ∃ mf, rm[k].f = mf := ⟨_, rfl⟩
      rw [hmc] at n1 n3
      rw [hmf] at n2 n4
      have HCM : Hid (Calls Tryd.prog 54 #[.agg A.toArray, .agg B.toArray] wr.drew fun e w' => e = .returned (.bool true) ∧ Below wr.drew.heap.size wr.drew w') := hc9
      have ZA : Hid ((Tryd.prog.info? 54).map (·.size) = some A.length ∧ (Tryd.prog.info? 54).map (·.size) = some B.length) := ⟨zA, zB⟩
      have HS0 : Hid ((fun w' => w'.cell? ⟨w.heap.size, 3, none⟩ = some (.slice (some ⟨ga, 0, none⟩) l3 j3) ∧ w'.cell? ⟨w.heap.size + 1, 3, none⟩ = some (.slice (some ⟨gb, 0, none⟩) l3 z3) ∧ w'.cell? ⟨ga, k * 20, none⟩ = some (.int .i64 mc) ∧ w'.cell? ⟨ga, k * 20 + 1, none⟩ = some (.string mf) ∧ w'.cell? ⟨gb, k * 20, none⟩ = some (.int .i64 mc) ∧ w'.cell? ⟨gb, k * 20 + 1, none⟩ = some (.string mf) ∧ w'.rangeAt ga (k * 20 + 2) A ∧ w'.rangeAt gb (k * 20 + 2) B) wr) := ⟨a3, b3, n1, n2, n3, n4, r3, r4⟩
      have hx3 : (mf.toList == mf.toList) = true := by simp
      have i1 : (0 : Int) ≤ (k : Int) := by omega
      have i2 : (k : Int) < (l3 : Int) := by omega
      clear hcall hc9 zA zB r1 r2 r3 r4 g1 g2 hrd hTr hkc hA hB hmc hmf n1 n2 n3 n4
      go_wp2_with fail
      refine start_n (S := (fun w' => w'.cell? ⟨w.heap.size, 3, none⟩ = some (.slice (some ⟨ga, 0, none⟩) l3 j3) ∧ w'.cell? ⟨w.heap.size + 1, 3, none⟩ = some (.slice (some ⟨gb, 0, none⟩) l3 z3) ∧ w'.cell? ⟨ga, k * 20, none⟩ = some (.int .i64 mc) ∧ w'.cell? ⟨ga, k * 20 + 1, none⟩ = some (.string mf) ∧ w'.cell? ⟨gb, k * 20, none⟩ = some (.int .i64 mc) ∧ w'.cell? ⟨gb, k * 20 + 1, none⟩ = some (.string mf) ∧ w'.rangeAt ga (k * 20 + 2) A ∧ w'.rangeAt gb (k * 20 + 2) B)) 44 #[false, false, false, false, false, false, false, false, false, false, false, false, false, false, false, false, false, false, false, false, false, false, false, false, false, false, false, false, false, false, false, false, false, false, false, false, false, false, false, false, false, false, false, false] rfl rfl (by kernel_rfl) (by { have := HS0.out; exact this }) (fun hHeld => ?_)
      refine take_mk (i := 0) (v := ?v1) rfl (by kernel_rfl) (by kernel_rfl) (by kernel_rfl) (fun _ _ _ h => h) (Or.inl ⟨by rfl, ?hy1⟩) (by assumption) ?rest1
      case hy1 => (intro w0 hSw; (try dsimp only at hSw); go_simp <;> (try (with_reducible rfl)))
      (try simp only [Act.put, List.setIfInBounds_toArray, List.set_cons_zero, List.set_cons_succ])
      refine take_mk (i := 1) (v := ?v2) rfl (by kernel_rfl) (by kernel_rfl) (by kernel_rfl) (fun _ _ _ h => h) (Or.inl ⟨by rfl, ?hy2⟩) (by assumption) ?rest2
      case hy2 => (intro w0 hSw; (try dsimp only at hSw); go_simp <;> (try (with_reducible rfl)))
      (try simp only [Act.put, List.setIfInBounds_toArray, List.set_cons_zero, List.set_cons_succ])
      refine take_mk (i := 2) (v := ?v3) rfl (by kernel_rfl) (by kernel_rfl) (by kernel_rfl) (fun _ _ _ h => h) (Or.inl ⟨by rfl, ?hy3⟩) (by assumption) ?rest3
      case hy3 => (intro w0 hSw; (try dsimp only at hSw); go_simp <;> (try (with_reducible rfl)))
      (try simp only [Act.put, List.setIfInBounds_toArray, List.set_cons_zero, List.set_cons_succ])
      refine take_mk (i := 3) (v := ?v4) rfl (by kernel_rfl) (by kernel_rfl) (by kernel_rfl) (fun _ _ _ h => h) (Or.inl ⟨by rfl, ?hy4⟩) (by assumption) ?rest4
      case hy4 => (intro w0 hSw; (try dsimp only at hSw); go_simp <;> (try (with_reducible rfl)))
      (try simp only [Act.put, List.setIfInBounds_toArray, List.set_cons_zero, List.set_cons_succ])
      refine take_mk (i := 4) (v := ?v5) rfl (by kernel_rfl) (by kernel_rfl) (by kernel_rfl) (fun _ _ _ h => h) (Or.inl ⟨by rfl, ?hy5⟩) (by assumption) ?rest5
      case hy5 => (intro w0 hSw; (try dsimp only at hSw); go_simp <;> (try (with_reducible rfl)))
      (try simp only [Act.put, List.setIfInBounds_toArray, List.set_cons_zero, List.set_cons_succ])
      refine take_mk (i := 5) (v := ?v6) rfl (by kernel_rfl) (by kernel_rfl) (by kernel_rfl) (fun _ _ _ h => h) (Or.inl ⟨by rfl, ?hy6⟩) (by assumption) ?rest6
      case hy6 => (intro w0 hSw; (try dsimp only at hSw); go_simp <;> (try (with_reducible rfl)))
      (try simp only [Act.put, List.setIfInBounds_toArray, List.set_cons_zero, List.set_cons_succ])
      refine take_mk (i := 6) (v := ?v7) rfl (by kernel_rfl) (by kernel_rfl) (by kernel_rfl) (fun _ _ _ h => h) (Or.inl ⟨by rfl, ?hy7⟩) (by assumption) ?rest7
      case hy7 => (intro w0 hSw; (try dsimp only at hSw); go_simp <;> (try (with_reducible rfl)))
      (try simp only [Act.put, List.setIfInBounds_toArray, List.set_cons_zero, List.set_cons_succ])
      refine take_mk (i := 7) (v := ?v8) rfl (by kernel_rfl) (by kernel_rfl) (by kernel_rfl) (fun _ _ _ h => h) (Or.inl ⟨by rfl, ?hy8⟩) (by assumption) ?rest8
      case hy8 => (intro w0 hSw; (try dsimp only at hSw); go_simp <;> (try (with_reducible rfl)))
      (try simp only [Act.put, List.setIfInBounds_toArray, List.set_cons_zero, List.set_cons_succ])
      refine take_mk (i := 8) (v := ?v9) rfl (by kernel_rfl) (by kernel_rfl) (by kernel_rfl) (fun _ _ _ h => h) (Or.inl ⟨by rfl, ?hy9⟩) (by assumption) ?rest9
      case hy9 => (intro w0 hSw; (try dsimp only at hSw); go_simp <;> (try (with_reducible rfl)))
      (try simp only [Act.put, List.setIfInBounds_toArray, List.set_cons_zero, List.set_cons_succ])
      refine take_mk (i := 9) (v := ?v10) rfl (by kernel_rfl) (by kernel_rfl) (by kernel_rfl) (fun _ _ _ h => h) (Or.inl ⟨by rfl, ?hy10⟩) (by assumption) ?rest10
      case hy10 => (intro w0 hSw; (try dsimp only at hSw); go_simp <;> (try (with_reducible rfl)))
      (try simp only [Act.put, List.setIfInBounds_toArray, List.set_cons_zero, List.set_cons_succ])
      refine take_mk (i := 10) (v := ?v11) rfl (by kernel_rfl) (by kernel_rfl) (by kernel_rfl) (fun _ _ _ h => h) (Or.inl ⟨by rfl, ?hy11⟩) (by assumption) ?rest11
      case hy11 => (intro w0 hSw; (try dsimp only at hSw); go_simp <;> (try (with_reducible rfl)))
      (try simp only [Act.put, List.setIfInBounds_toArray, List.set_cons_zero, List.set_cons_succ])
      refine take_mk (i := 11) (v := ?v12) rfl (by kernel_rfl) (by kernel_rfl) (by kernel_rfl) (fun _ _ _ h => h) (Or.inl ⟨by rfl, ?hy12⟩) (by assumption) ?rest12
      case hy12 => (intro w0 hSw; (try dsimp only at hSw); go_simp <;> (try (with_reducible rfl)))
      (try simp only [Act.put, List.setIfInBounds_toArray, List.set_cons_zero, List.set_cons_succ])
      refine take_mk (i := 12) (v := ?v13) rfl (by kernel_rfl) (by kernel_rfl) (by kernel_rfl) (fun _ _ _ h => h) (Or.inl ⟨by rfl, ?hy13⟩) (by assumption) ?rest13
      case hy13 => (intro w0 hSw; (try dsimp only at hSw); go_simp <;> (try (with_reducible rfl)))
      (try simp only [Act.put, List.setIfInBounds_toArray, List.set_cons_zero, List.set_cons_succ])
      refine take_mk (i := 13) (v := ?v14) rfl (by kernel_rfl) (by kernel_rfl) (by kernel_rfl) (fun _ _ _ h => h) (Or.inl ⟨by rfl, ?hy14⟩) (by assumption) ?rest14
      case hy14 => (intro w0 hSw; (try dsimp only at hSw); go_simp <;> (try (with_reducible rfl)))
      (try simp only [Act.put, List.setIfInBounds_toArray, List.set_cons_zero, List.set_cons_succ])
      refine take_mk (i := 14) (v := ?v15) rfl (by kernel_rfl) (by kernel_rfl) (by kernel_rfl) (fun _ _ _ h => h) (Or.inl ⟨by rfl, ?hy15⟩) (by assumption) ?rest15
      case hy15 => (intro w0 hSw; (try dsimp only at hSw); go_simp <;> (try (with_reducible rfl)))
      (try simp only [Act.put, List.setIfInBounds_toArray, List.set_cons_zero, List.set_cons_succ])
      refine take_mk (i := 15) (v := ?v16) rfl (by kernel_rfl) (by kernel_rfl) (by kernel_rfl) (fun _ _ _ h => h) (Or.inl ⟨by rfl, ?hy16⟩) (by assumption) ?rest16
      case hy16 => (intro w0 hSw; (try dsimp only at hSw); go_simp <;> (try (with_reducible rfl)))
      (try simp only [Act.put, List.setIfInBounds_toArray, List.set_cons_zero, List.set_cons_succ])
      refine take_mk (i := 16) (v := ?v17) rfl (by kernel_rfl) (by kernel_rfl) (by kernel_rfl) (fun _ _ _ h => h) (Or.inl ⟨by rfl, ?hy17⟩) (by assumption) ?rest17
      case hy17 => (intro w0 hSw; (try dsimp only at hSw); go_simp <;> (try (with_reducible rfl)))
      (try simp only [Act.put, List.setIfInBounds_toArray, List.set_cons_zero, List.set_cons_succ])
      refine take_mk (i := 17) (v := ?v18) rfl (by kernel_rfl) (by kernel_rfl) (by kernel_rfl) (fun _ _ _ h => h) (Or.inl ⟨by rfl, ?hy18⟩) (by assumption) ?rest18
      case hy18 => (intro w0 hSw; (try dsimp only at hSw); go_simp <;> (try (with_reducible rfl)))
      (try simp only [Act.put, List.setIfInBounds_toArray, List.set_cons_zero, List.set_cons_succ])
      refine take_mk (i := 18) (v := ?v19) rfl (by kernel_rfl) (by kernel_rfl) (by kernel_rfl) (fun _ _ _ h => h) (Or.inl ⟨by rfl, ?hy19⟩) (by assumption) ?rest19
      case hy19 => (intro w0 hSw; (try dsimp only at hSw); go_simp <;> (try (with_reducible rfl)))
      (try simp only [Act.put, List.setIfInBounds_toArray, List.set_cons_zero, List.set_cons_succ])
      refine take_mk (i := 19) (v := ?v20) rfl (by kernel_rfl) (by kernel_rfl) (by kernel_rfl) (fun _ _ _ h => h) (Or.inl ⟨by rfl, ?hy20⟩) (by assumption) ?rest20
      case hy20 => (intro w0 hSw; (try dsimp only at hSw); go_simp <;> (try (with_reducible rfl)))
      (try simp only [Act.put, List.setIfInBounds_toArray, List.set_cons_zero, List.set_cons_succ])
      refine take_mk (i := 20) (v := ?v21) rfl (by kernel_rfl) (by kernel_rfl) (by kernel_rfl) (fun _ _ _ h => h) (Or.inl ⟨by rfl, ?hy21⟩) (by assumption) ?rest21
      case hy21 => (intro w0 hSw; (try dsimp only at hSw); go_simp <;> (try (with_reducible rfl)))
      (try simp only [Act.put, List.setIfInBounds_toArray, List.set_cons_zero, List.set_cons_succ])
      refine take_mk (i := 21) (v := ?v22) rfl (by kernel_rfl) (by kernel_rfl) (by kernel_rfl) (fun _ _ _ h => h) (Or.inl ⟨by rfl, ?hy22⟩) (by assumption) ?rest22
      case hy22 => (intro w0 hSw; (try dsimp only at hSw); go_simp <;> (try (with_reducible rfl)))
      (try simp only [Act.put, List.setIfInBounds_toArray, List.set_cons_zero, List.set_cons_succ])
      refine take_mk (i := 22) (v := ?v23) rfl (by kernel_rfl) (by kernel_rfl) (by kernel_rfl) (fun _ _ _ h => h) (Or.inl ⟨by rfl, ?hy23⟩) (by assumption) ?rest23
      case hy23 => (intro w0 hSw; (try dsimp only at hSw); go_simp <;> (try (with_reducible rfl)))
      (try simp only [Act.put, List.setIfInBounds_toArray, List.set_cons_zero, List.set_cons_succ])
      refine take_mk (i := 23) (v := ?v24) rfl (by kernel_rfl) (by kernel_rfl) (by kernel_rfl) (fun _ _ _ h => h) (Or.inl ⟨by rfl, ?hy24⟩) (by assumption) ?rest24
      case hy24 => (intro w0 hSw; (try dsimp only at hSw); go_simp <;> (try (with_reducible rfl)))
      (try simp only [Act.put, List.setIfInBounds_toArray, List.set_cons_zero, List.set_cons_succ])
      refine take_mk (i := 24) (v := ?v25) rfl (by kernel_rfl) (by kernel_rfl) (by kernel_rfl) (fun _ _ _ h => h) (Or.inl ⟨by rfl, ?hy25⟩) (by assumption) ?rest25
      case hy25 => (intro w0 hSw; (try dsimp only at hSw); go_simp <;> (try (with_reducible rfl)))
      (try simp only [Act.put, List.setIfInBounds_toArray, List.set_cons_zero, List.set_cons_succ])
      refine take_mk (i := 25) (v := ?v26) rfl (by kernel_rfl) (by kernel_rfl) (by kernel_rfl) (fun _ _ _ h => h) (Or.inl ⟨by rfl, ?hy26⟩) (by assumption) ?rest26
      case hy26 => (intro w0 hSw; (try dsimp only at hSw); go_simp <;> (try (with_reducible rfl)))
      (try simp only [Act.put, List.setIfInBounds_toArray, List.set_cons_zero, List.set_cons_succ])
      refine take_mk (i := 26) (v := ?v27) rfl (by kernel_rfl) (by kernel_rfl) (by kernel_rfl) (fun _ _ _ h => h) (Or.inl ⟨by rfl, ?hy27⟩) (by assumption) ?rest27
      case hy27 => (intro w0 hSw; (try dsimp only at hSw); go_simp <;> (try (with_reducible rfl)))
      (try simp only [Act.put, List.setIfInBounds_toArray, List.set_cons_zero, List.set_cons_succ])
      refine take_mk (i := 27) (v := ?v28) rfl (by kernel_rfl) (by kernel_rfl) (by kernel_rfl) (fun _ _ _ h => h) (Or.inl ⟨by rfl, ?hy28⟩) (by assumption) ?rest28
      case hy28 => (intro w0 hSw; (try dsimp only at hSw); go_simp <;> (try (with_reducible rfl)))
      (try simp only [Act.put, List.setIfInBounds_toArray, List.set_cons_zero, List.set_cons_succ])
      refine take_mk (i := 28) (v := ?v29) rfl (by kernel_rfl) (by kernel_rfl) (by kernel_rfl) (fun _ _ _ h => h) (Or.inl ⟨by rfl, ?hy29⟩) (by assumption) ?rest29
      case hy29 => (intro w0 hSw; (try dsimp only at hSw); go_simp <;> (try (with_reducible rfl)))
      (try simp only [Act.put, List.setIfInBounds_toArray, List.set_cons_zero, List.set_cons_succ])
      refine take_mk (i := 29) (v := ?v30) rfl (by kernel_rfl) (by kernel_rfl) (by kernel_rfl) (fun _ _ _ h => h) (Or.inl ⟨by rfl, ?hy30⟩) (by assumption) ?rest30
      case hy30 => (intro w0 hSw; (try dsimp only at hSw); go_simp <;> (try (with_reducible rfl)))
      (try simp only [Act.put, List.setIfInBounds_toArray, List.set_cons_zero, List.set_cons_succ])
      refine take_mk (i := 30) (v := ?v31) rfl (by kernel_rfl) (by kernel_rfl) (by kernel_rfl) (fun _ _ _ h => h) (Or.inl ⟨by rfl, ?hy31⟩) (by assumption) ?rest31
      case hy31 => (intro w0 hSw; (try dsimp only at hSw); go_simp <;> (try (with_reducible rfl)))
      (try simp only [Act.put, List.setIfInBounds_toArray, List.set_cons_zero, List.set_cons_succ])
      refine take_mk (i := 31) (v := ?v32) rfl (by kernel_rfl) (by kernel_rfl) (by kernel_rfl) (fun _ _ _ h => h) (Or.inl ⟨by rfl, ?hy32⟩) (by assumption) ?rest32
      case hy32 => (intro w0 hSw; (try dsimp only at hSw); go_simp <;> (try (with_reducible rfl)))
      (try simp only [Act.put, List.setIfInBounds_toArray, List.set_cons_zero, List.set_cons_succ])
      refine take_mk (i := 32) (v := ?v33) rfl (by kernel_rfl) (by kernel_rfl) (by kernel_rfl) (fun _ _ _ h => h) (Or.inl ⟨by rfl, ?hy33⟩) (by assumption) ?rest33
      case hy33 => (intro w0 hSw; (try dsimp only at hSw); go_simp <;> (try (with_reducible rfl)))
      (try simp only [Act.put, List.setIfInBounds_toArray, List.set_cons_zero, List.set_cons_succ])
      refine take_mk (i := 33) (v := ?v34) rfl (by kernel_rfl) (by kernel_rfl) (by kernel_rfl) (fun _ _ _ h => h) (Or.inl ⟨by rfl, ?hy34⟩) (by assumption) ?rest34
      case hy34 => (intro w0 hSw; (try dsimp only at hSw); go_simp <;> (try (with_reducible rfl)))
      (try simp only [Act.put, List.setIfInBounds_toArray, List.set_cons_zero, List.set_cons_succ])
      refine take_mk (i := 34) rfl (by kernel_rfl) (by kernel_rfl) (by kernel_rfl) (fun _ _ _ h => h) (yieldsIf_load_mid (by rfl) 54 _ rfl ga (k * 20 + 2) (by rfl) A _ (fun _ h => h.2.2.2.2.2.2.1) Tryd.underlying54 rfl ZA.out.1) (by assumption) ?_
      (try simp only [Act.put, List.setIfInBounds_toArray, List.set_cons_zero, List.set_cons_succ])
      refine take_mk (i := 35) (v := ?v35) rfl (by kernel_rfl) (by kernel_rfl) (by kernel_rfl) (fun _ _ _ h => h) (Or.inl ⟨by rfl, ?hy35⟩) (by assumption) ?rest35
      case hy35 => (intro w0 hSw; (try dsimp only at hSw); go_simp <;> (try (with_reducible rfl)))
      (try simp only [Act.put, List.setIfInBounds_toArray, List.set_cons_zero, List.set_cons_succ])
      refine take_mk (i := 36) (v := ?v36) rfl (by kernel_rfl) (by kernel_rfl) (by kernel_rfl) (fun _ _ _ h => h) (Or.inl ⟨by rfl, ?hy36⟩) (by assumption) ?rest36
      case hy36 => (intro w0 hSw; (try dsimp only at hSw); go_simp <;> (try (with_reducible rfl)))
      (try simp only [Act.put, List.setIfInBounds_toArray, List.set_cons_zero, List.set_cons_succ])
      refine take_mk (i := 37) (v := ?v37) rfl (by kernel_rfl) (by kernel_rfl) (by kernel_rfl) (fun _ _ _ h => h) (Or.inl ⟨by rfl, ?hy37⟩) (by assumption) ?rest37
      case hy37 => (intro w0 hSw; (try dsimp only at hSw); go_simp <;> (try (with_reducible rfl)))
      (try simp only [Act.put, List.setIfInBounds_toArray, List.set_cons_zero, List.set_cons_succ])
      refine take_mk (i := 38) (v := ?v38) rfl (by kernel_rfl) (by kernel_rfl) (by kernel_rfl) (fun _ _ _ h => h) (Or.inl ⟨by rfl, ?hy38⟩) (by assumption) ?rest38
      case hy38 => (intro w0 hSw; (try dsimp only at hSw); go_simp <;> (try (with_reducible rfl)))
      (try simp only [Act.put, List.setIfInBounds_toArray, List.set_cons_zero, List.set_cons_succ])
      refine take_mk (i := 39) (v := ?v39) rfl (by kernel_rfl) (by kernel_rfl) (by kernel_rfl) (fun _ _ _ h => h) (Or.inl ⟨by rfl, ?hy39⟩) (by assumption) ?rest39
      case hy39 => (intro w0 hSw; (try dsimp only at hSw); go_simp <;> (try (with_reducible rfl)))
      (try simp only [Act.put, List.setIfInBounds_toArray, List.set_cons_zero, List.set_cons_succ])
      refine take_mk (i := 40) rfl (by kernel_rfl) (by kernel_rfl) (by kernel_rfl) (fun _ _ _ h => h) (yieldsIf_load_mid (by rfl) 54 _ rfl gb (k * 20 + 2) (by rfl) B _ (fun _ h => h.2.2.2.2.2.2.2) Tryd.underlying54 rfl ZA.out.2) (by assumption) ?_
      (try simp only [Act.put, List.setIfInBounds_toArray, List.set_cons_zero, List.set_cons_succ])
      refine wpAnyH_ready (rs := [41]) (by kernel_rfl) (by simp) ?_
      refine cons_mk rfl (fun K hK => ?_) AllReadyH.nil
      refine step_call2g 54 ent_pat (by rfl) _ _ _ (by rfl) (.agg A.toArray) (.agg B.toArray) (by rfl) (by rfl) _ HCM.out ?_
      rintro e w5 ⟨rfl, hb5⟩
      refine ⟨_, rfl, ?_⟩
      have HT5 : Hid (Two w w5 (ruC rn (.slice q1 l1 j1) (.slice q2 l2 j2) (.slice q3 l3 j3) (.slice q4 l4 j4) (ety) (.slice q5 l5 j5)) (ruC rn (.slice x1 l1 z1) (.slice x2 l2 z2) (.slice x3 l3 z3) (.slice x4 l4 z4) (ety) (.slice x5 l5 z5)) 44) := HT.out.drew.next hb5
      have HS5 : Hid ((fun w' => w'.cell? ⟨w.heap.size, 3, none⟩ = some (.slice (some ⟨ga, 0, none⟩) l3 j3) ∧ w'.cell? ⟨w.heap.size + 1, 3, none⟩ = some (.slice (some ⟨gb, 0, none⟩) l3 z3) ∧ w'.cell? ⟨ga, k * 20, none⟩ = some (.int .i64 mc) ∧ w'.cell? ⟨ga, k * 20 + 1, none⟩ = some (.string mf) ∧ w'.cell? ⟨gb, k * 20, none⟩ = some (.int .i64 mc) ∧ w'.cell? ⟨gb, k * 20 + 1, none⟩ = some (.string mf) ∧ w'.rangeAt ga (k * 20 + 2) A ∧ w'.rangeAt gb (k * 20 + 2) B) w5) := ⟨by { rw [← HQ.out.1]; exact HT5.out.c1 3 }, by { rw [← HQ.out.2]; exact HT5.out.c2 3 }, cell_bel HS0.out.2.2.1 hb5, cell_bel HS0.out.2.2.2.1 hb5, cell_bel HS0.out.2.2.2.2.1 hb5, cell_bel HS0.out.2.2.2.2.2.1 hb5, range_bel HS0.out.2.2.2.2.2.2.1 hb5, range_bel HS0.out.2.2.2.2.2.2.2 hb5⟩
      clear hb5
      refine hK.out _ _ (by { have := HS5.out; exact this }) (fun hHeld => ?_)
      clear hK K
      (try simp only [Act.put, List.setIfInBounds_toArray, List.set_cons_zero, List.set_cons_succ])
      refine take_mk (i := 42) (v := ?v40) rfl (by kernel_rfl) (by kernel_rfl) (by kernel_rfl) (fun _ _ _ h => h) (Or.inl ⟨by rfl, ?hy40⟩) (by assumption) ?rest40
      case hy40 => (intro w0 hSw; (try dsimp only at hSw); go_simp <;> (try (with_reducible rfl)))
      (try simp only [Act.put, List.setIfInBounds_toArray, List.set_cons_zero, List.set_cons_succ])
      refine take_mk (i := 43) (v := ?v41) rfl (by kernel_rfl) (by kernel_rfl) (by kernel_rfl) (fun _ _ _ h => h) (Or.inl ⟨by rfl, ?hy41⟩) (by assumption) ?rest41
      case hy41 => (intro w0 hSw; (try dsimp only at hSw); go_simp <;> (try (with_reducible rfl)))
      (try simp only [Act.put, List.setIfInBounds_toArray, List.set_cons_zero, List.set_cons_succ])
      refine wpAnyH_done (by kernel_rfl) ?_ _
      clear hHeld a3 b3
      go_wp2_with fail
      go_roundw
      case rel => exact ⟨k + 1, by omega, by go_num, HT5.out⟩
      case measure => simp [intOf]; omega
    · obtain rfl : l3 = k := by omega
      have a3 : wr.cell? ⟨w.heap.size, 3, none⟩ = some (.slice q3 l3 j3) := hTr.c1 3
      have b3 : wr.cell? ⟨w.heap.size + 1, 3, none⟩ = some (.slice x3 l3 z3) := hTr.c2 3
      clear hTr HT4
      go_wp2_with fail
      go_loopw [6, 7, 8, 9] (fun i _ _ _ wr => ∃ k : Nat, k ≤ l4 ∧ i = .int .i64 (k : Nat) ∧ Two w wr (ruC rn (.slice q1 l1 j1) (.slice q2 l2 j2) (.slice q3 l3 j3) (.slice q4 l4 j4) (ety) (.slice q5 l5 j5)) (ruC rn (.slice x1 l1 z1) (.slice x2 l2 z2) (.slice x3 l3 z3) (.slice x4 l4 z4) (ety) (.slice x5 l5 z5)) 44) (fun i _ _ _ _ => l4 + 1 - (intOf i).toNat)
      case atStart => exact ⟨0, by omega, rfl, HT.out⟩
      case round =>
        obtain ⟨k, hk, rfl, hTr⟩ := hrel
        have HT2 : Hid (Two w wr (ruC rn (.slice q1 l1 j1) (.slice q2 l2 j2) (.slice q3 l3 j3) (.slice q4 l4 j4) (ety) (.slice q5 l5 j5)) (ruC rn (.slice x1 l1 z1) (.slice x2 l2 z2) (.slice x3 l3 z3) (.slice x4 l4 z4) (ety) (.slice x5 l5 z5)) 44) := hTr
        by_cases hlt : k < l4
        · have hkc : k < rk.length := by have := HL4.out; omega
          obtain ⟨ga, gb, hq, hx, hrd⟩ := H24.out (by omega)
          have HQ : Hid (q4 = some ⟨ga, 0, none⟩ ∧ x4 = some ⟨gb, 0, none⟩) := ⟨hq, hx⟩
          have a4 : wr.cell? ⟨w.heap.size, 4, none⟩ = some (.slice (some ⟨ga, 0, none⟩) l4 j4) := by rw [← hq]; exact hTr.c1 4
          have b4 : wr.cell? ⟨w.heap.size + 1, 4, none⟩ = some (.slice (some ⟨gb, 0, none⟩) l4 z4) := by rw [← hx]; exact hTr.c2 4
          obtain ⟨us, vs, r1, r2, o1, o2⟩ := hrd wr hTr.bel k hkc
          obtain ⟨va, y1, o3⟩ := encK_cells o1
          obtain ⟨vb, y2, o4⟩ := encK_cells o2
          obtain ⟨pa, ca, pb, cb, y3, y4, hmx, h2q⟩ := two_rows encQ_len o3 o4
          clear o1 o2 o3 o4
          subst y1 y2 y3 y4
          obtain ⟨⟨kl, ko, kr⟩, hd⟩ : ∃ d, rk[k] = d := ⟨_, rfl⟩
          rw [hd] at r1 r2 h2q hmx
          simp only at r1 r2 h2q hmx
          obtain ⟨nq, hnq⟩ : ∃ nq, ko.length = nq := ⟨_, rfl⟩
          have HNQ : Hid (ko.length = nq) := hnq
          have H2Q : Hid (TwoAt encQ 3 wr S T pa pb ko) := h2q
          rw [hnq] at r1 r2 hmx
          have n0 := r1 0 _ rfl
          have n1 := r1 1 _ rfl
          have n2 := r1 2 _ rfl
          have n3 := r2 0 _ rfl
          have n4 := r2 1 _ rfl
          have n5 := r2 2 _ rfl
          simp only [Nat.add_zero] at n0 n3
          have hx4 : (kl.toList == kl.toList) = true := by simp
          have hx5 : (kr.toList == kr.toList) = true := by simp
          have hne1 : ¬ w.heap.size = wr.heap.size := by have := blk_lt hTr.b1; omega
          have hne2 : ¬ w.heap.size + 1 = wr.heap.size := by have := blk_lt hTr.b2; omega
          have c4 : (wr.alloc (.cells #[.string kl, .slice pa nq ca, .string kr] 62)).cell? ⟨w.heap.size + 1, 4, none⟩ = some (.slice (some ⟨gb, 0, none⟩) l4 z4) := by rw [← hx]; exact (hTr.alloc _).c2 4
          have hga : ga < wr.heap.size := World.block_lt_of_cell? _ _ n0
          have hgb : gb < wr.heap.size := World.block_lt_of_cell? _ _ n3
          have n6 : (wr.alloc (.cells #[.string kl, .slice pa nq ca, .string kr] 62)).cell? ⟨gb, k * 3, none⟩ = some (.string kl) := (((Below.refl _ wr).alloc (Nat.le_refl _) _).cell (p := ⟨gb, k * 3, none⟩) hgb).trans n3
          have n7 : (wr.alloc (.cells #[.string kl, .slice pa nq ca, .string kr] 62)).cell? ⟨gb, k * 3 + 1, none⟩ = some (.slice pb nq cb) := (((Below.refl _ wr).alloc (Nat.le_refl _) _).cell (p := ⟨gb, k * 3 + 1, none⟩) hgb).trans n4
          have n8 : (wr.alloc (.cells #[.string kl, .slice pa nq ca, .string kr] 62)).cell? ⟨gb, k * 3 + 2, none⟩ = some (.string kr) := (((Below.refl _ wr).alloc (Nat.le_refl _) _).cell (p := ⟨gb, k * 3 + 2, none⟩) hgb).trans n5
          have i1 : (0 : Int) ≤ (k : Int) := by omega
          have i2 : (k : Int) < (l4 : Int) := by omega
          have HX0 : Hid (Two wr ((wr.alloc (.cells #[.string kl, .slice pa nq ca, .string kr] 62)).alloc (.cells #[.string kl, .slice pb nq cb, .string kr] 62)) [.string kl, .slice pa nq ca, .string kr] [.string kl, .slice pb nq cb, .string kr] 62) := Two.start wr _ _ _
          clear r1 r2 h2q hnq hd hrd hTr hkc hq hx HQ
          go_wp2_with fail
          obtain ⟨Wx, hWx⟩ : ∃ Wx, (wr.alloc (.cells #[.string kl, .slice pa nq ca, .string kr] 62)).alloc (.cells #[.string kl, .slice pb nq cb, .string kr] 62) = Wx := ⟨_, rfl⟩
          change Go.Code.wp _ _ _ _ ((wr.alloc (.cells #[.string kl, .slice pa nq ca, .string kr] 62)).alloc (.cells #[.string kl, .slice pb nq cb, .string kr] 62))
          obtain ⟨w3, hw3⟩ : ∃ w3, wr = w3 := ⟨_, rfl⟩
          rw [hWx] at HX0 ⊢
          clear hWx n0 n1 n2 n3 n4 n5 n6 n7 n8 c4 a4 b4
          have HT3 : Hid (Two w w3 (ruC rn (.slice q1 l1 j1) (.slice q2 l2 j2) (.slice q3 l3 j3) (.slice q4 l4 j4) (ety) (.slice q5 l5 j5)) (ruC rn (.slice x1 l1 z1) (.slice x2 l2 z2) (.slice x3 l3 z3) (.slice x4 l4 z4) (ety) (.slice x5 l5 z5)) 44) := by rw [← hw3]; exact HT2.out
          rw [hw3] at HX0 H2Q ⊢
          clear HT2 hw3 hga hgb hne1 hne2
          go_loopw [9] (fun i wr => ∃ j : Nat, j ≤ nq ∧ i = .int .i64 (j : Nat) ∧ Two w3 wr [.string kl, .slice pa nq ca, .string kr] [.string kl, .slice pb nq cb, .string kr] 62) (fun i _ => nq + 1 - (intOf i).toNat)
          case atStart => exact ⟨0, by omega, rfl, HX0.out⟩
          case round =>
            obtain ⟨j, hj, rfl, hXr⟩ := hrel
            have HX : Hid (Two w3 wr [.string kl, .slice pa nq ca, .string kr] [.string kl, .slice pb nq cb, .string kr] 62) := hXr
            have a4 : wr.cell? ⟨w3.heap.size, 1, none⟩ = some (.slice pa nq ca) := hXr.c1 1
            have b4 : wr.cell? ⟨w3.heap.size + 1, 1, none⟩ = some (.slice pb nq cb) := hXr.c2 1
            by_cases hjl : j < nq
            · have hjc : j < ko.length := by have := HNQ.out; omega
              obtain ⟨g3, g4, rfl, rfl, hrd⟩ := H2Q.out (by omega)
              obtain ⟨us, vs, r1, r2, o1, o2⟩ := hrd wr hXr.bel j hjc
              have z1 := encQ_cells o1
              have z2 := encQ_cells o2
              clear o1 o2
              subst z1 z2
              obtain ⟨⟨xr, xl, xh⟩, hd⟩ : ∃ d, ko[j] = d := ⟨_, rfl⟩
              rw [hd] at r1 r2
              have n0 := r1 0 _ rfl
              have n1 := r1 1 _ rfl
              have n2 := r1 2 _ rfl
              have n3 := r2 0 _ rfl
              have n4 := r2 1 _ rfl
              have n5 := r2 2 _ rfl
              simp only [Nat.add_zero] at n0 n3
              have i3 : (0 : Int) ≤ (j : Int) := by omega
              have i4 : (j : Int) < (nq : Int) := by omega
              clear r1 r2 hd hrd hXr hjc HX0
              go_wp2_with fail
              go_quiet (fail)
              go_wp2_with fail
              go_roundw
              case rel => exact ⟨j + 1, by omega, by go_num, HX.out.drewN _⟩
              case measure => simp [intOf]; omega
            · obtain rfl : j = nq := by omega
              clear hXr
              go_wp2_with fail
              go_roundw
              case rel => exact ⟨k + 1, by omega, by go_num, HT3.out.next (HX.out.bel)⟩
              case measure => simp [intOf]; omega
        · obtain rfl : l4 = k := by omega
          have a4 : wr.cell? ⟨w.heap.size, 4, none⟩ = some (.slice q4 l4 j4) := hTr.c1 4
          have b4 : wr.cell? ⟨w.heap.size + 1, 4, none⟩ = some (.slice x4 l4 z4) := hTr.c2 4
          clear hTr
          go_wp2_with fail
          go_ret
          exact ⟨rfl, HT2.out.bel⟩
end Go.Proofs.YtnlmkdncifijlaaDoor.Ref
namespace Go.Proofs.YtnlmkdncifijlaaDoor.Ref
open Go.ChangeShapes Go.WideShapes Go.ChangeAt Go.RowKit Go.Maps
set_option linter.unusedVariables false
set_option linter.unusedSimpArgs false
set_option maxRecDepth 20000
set_option maxHeartbeats 32000000 in
theorem same_book (b : Bk) (hbw : ∀ r, r ∈ b.r → WfR r) (w : World) (S T : Nat → Prop) (u1 u2 v1 v2 : Value) (ha : HoldsL w S (encB b) [u1, u2]) (hb : HoldsL w T (encB b) [v1, v2]) : Calls Tryd.prog 8 #[.agg #[u1, u2], .agg #[v1, v2]] w fun e w' => e = .returned (.bool true) ∧ Below w.heap.size w w' := by
  obtain ⟨ha1, ha⟩ := ha.head
  obtain ⟨ha2, _⟩ := ha.head
  obtain ⟨hb1, hb⟩ := hb.head
  obtain ⟨hb2, _⟩ := hb.head
  obtain ⟨bt, br⟩ := b
  simp only at ha1 ha2 hb1 hb2 hbw ⊢
  obtain ⟨q1, j1, x1, z1, e1, d1, m1, h21⟩ := two_rows encY_len ha1 hb1
  subst e1 d1
  obtain ⟨l1, hl1⟩ : ∃ l, (bt).length = l := ⟨_, rfl⟩
  have HL1 : Hid ((bt).length = l1) := hl1
  have H21 : Hid (TwoAt encY 2 w S T q1 x1 (bt)) := h21
  rw [hl1] at m1 ha1 hb1
  rw [hl1]
  clear hl1 h21
  obtain ⟨q2, j2, x2, z2, e2, d2, m2, h22⟩ := two_rows encR_len ha2 hb2
  subst e2 d2
  obtain ⟨l2, hl2⟩ : ∃ l, (br).length = l := ⟨_, rfl⟩
  have HL2 : Hid ((br).length = l2) := hl2
  have H22 : Hid (TwoAt encR 7 w S T q2 x2 (br)) := h22
  rw [hl2] at m2 ha2 hb2
  rw [hl2]
  clear hl2 h22
  have HWF : Hid (∀ r, r ∈ br → WfR r) := hbw
  have HT1 : Hid (Two w ((w.alloc (.cells [.slice q1 l1 j1, .slice q2 l2 j2].toArray 26)).alloc (.cells [.slice x1 l1 z1, .slice x2 l2 z2].toArray 26)) [.slice q1 l1 j1, .slice q2 l2 j2] [.slice x1 l1 z1, .slice x2 l2 z2] 26) := Two.start w _ _ _
  clear hbw ha hb ha1 ha2 hb1 hb2
  go_enter Tryd.func8, Tryd.ntmps8
  go_wp2_with fail
  go_loopw [5, 6] (fun i _ wr => ∃ k : Nat, k ≤ l1 ∧ i = .int .i64 (k : Nat) ∧ Two w wr [.slice q1 l1 j1, .slice q2 l2 j2] [.slice x1 l1 z1, .slice x2 l2 z2] 26) (fun i _ _ => l1 + 1 - (intOf i).toNat)
  case atStart => exact ⟨0, by omega, rfl, HT1.out⟩
  case round =>
    obtain ⟨k, hk, rfl, hTr⟩ := hrel
    have HT : Hid (Two w wr [.slice q1 l1 j1, .slice q2 l2 j2] [.slice x1 l1 z1, .slice x2 l2 z2] 26) := hTr
    by_cases hlt : k < l1
    · have hkc : k < bt.length := by have := HL1.out; omega
      obtain ⟨ga, gb, hq, hx, hrd⟩ := H21.out (by omega)
      have HQ : Hid (q1 = some ⟨ga, 0, none⟩ ∧ x1 = some ⟨gb, 0, none⟩) := ⟨hq, hx⟩
      have a3 : wr.cell? ⟨w.heap.size, 0, none⟩ = some (.slice (some ⟨ga, 0, none⟩) l1 j1) := by rw [← hq]; exact hTr.c1 0
      have b3 : wr.cell? ⟨w.heap.size + 1, 0, none⟩ = some (.slice (some ⟨gb, 0, none⟩) l1 z1) := by rw [← hx]; exact hTr.c2 0
      obtain ⟨us, vs, r1, r2, o1, o2⟩ := hrd wr hTr.bel k hkc
      obtain ⟨va, y1, o3⟩ := encY_cells o1
      obtain ⟨vb, y2, o4⟩ := encY_cells o2
      obtain ⟨pa, ca, pb, cb, y3, y4, hmx, h2q⟩ := two_rows encF_len o3 o4
      clear o1 o2 o3 o4
      subst y1 y2 y3 y4
      obtain ⟨⟨tn, tf⟩, hd⟩ : ∃ d, bt[k] = d := ⟨_, rfl⟩
      rw [hd] at r1 r2 h2q hmx
      simp only at r1 r2 h2q hmx
      obtain ⟨nf, hnf⟩ : ∃ nf, tf.length = nf := ⟨_, rfl⟩
      have HNF : Hid (tf.length = nf) := hnf
      have H2F : Hid (TwoAt encF 2 wr S T pa pb tf) := h2q
      rw [hnf] at r1 r2 hmx
      have n0 := r1 0 _ rfl
      have n1 := r1 1 _ rfl
      have n3 := r2 0 _ rfl
      have n4 := r2 1 _ rfl
      simp only [Nat.add_zero] at n0 n3
      have NN : Hid (wr.cell? ⟨ga, k * 2 + 1, none⟩ = some (.slice pa nf ca) ∧ wr.cell? ⟨gb, k * 2 + 1, none⟩ = some (.slice pb nf cb)) := ⟨n1, n4⟩
      have hx4 : (tn.toList == tn.toList) = true := by simp
      have i1 : (0 : Int) ≤ (k : Int) := by omega
      have i2 : (k : Int) < (l1 : Int) := by omega
      clear r1 r2 h2q hnf hd hrd hTr hkc hq hx HT1
      go_wp2_with fail
      go_quiet (fail)
      obtain ⟨w3, hw3⟩ : ∃ w3, wr = w3 := ⟨_, rfl⟩
      clear a3 b3 n0 n1 n3 n4
      rw [hw3] at HT H2F NN
      have HT3 : Hid (Two w (w3.drewN nq) [.slice q1 l1 j1, .slice q2 l2 j2] [.slice x1 l1 z1, .slice x2 l2 z2] 26) := HT.out.drewN _
      have HB3 : Hid (Below w3.heap.size w3 (w3.drewN nq)) := below_drawn (Below.refl _ _) _
      rw [hw3]
      clear hw3
      go_wp2_with fail
      go_loopw [6] (fun i wr => ∃ j : Nat, j ≤ nf ∧ i = .int .i64 (j : Nat) ∧ Two w wr [.slice q1 l1 j1, .slice q2 l2 j2] [.slice x1 l1 z1, .slice x2 l2 z2] 26 ∧ Below w3.heap.size w3 wr) (fun i _ => nf + 1 - (intOf i).toNat)
      case atStart => exact ⟨0, by omega, rfl, HT3.out, HB3.out⟩
      case round =>
        obtain ⟨j, hj, rfl, hTr, hBr⟩ := hrel
        have HT6 : Hid (Two w wr [.slice q1 l1 j1, .slice q2 l2 j2] [.slice x1 l1 z1, .slice x2 l2 z2] 26 ∧ Below w3.heap.size w3 wr) := ⟨hTr, hBr⟩
        have a3 : wr.cell? ⟨w.heap.size, 0, none⟩ = some (.slice (some ⟨ga, 0, none⟩) l1 j1) := by rw [← HQ.out.1]; exact hTr.c1 0
        have b3 : wr.cell? ⟨w.heap.size + 1, 0, none⟩ = some (.slice (some ⟨gb, 0, none⟩) l1 z1) := by rw [← HQ.out.2]; exact hTr.c2 0
        have n1 : wr.cell? ⟨ga, k * 2 + 1, none⟩ = some (.slice pa nf ca) := (hBr.cell (World.block_lt_of_cell? _ _ NN.out.1)).trans NN.out.1
        have n4 : wr.cell? ⟨gb, k * 2 + 1, none⟩ = some (.slice pb nf cb) := (hBr.cell (World.block_lt_of_cell? _ _ NN.out.2)).trans NN.out.2
        by_cases hjl : j < nf
        · have hjc : j < tf.length := by have := HNF.out; omega
          obtain ⟨g3, g4, rfl, rfl, hrd⟩ := H2F.out (by omega)
          obtain ⟨us, vs, r1, r2, o1, o2⟩ := hrd wr hBr j hjc
          have z1' := encF_cells o1
          have z2' := encF_cells o2
          clear o1 o2
          subst z1' z2'
          obtain ⟨⟨fn, fk⟩, hd⟩ : ∃ d, tf[j] = d := ⟨_, rfl⟩
          rw [hd] at r1 r2
          have n5 := r1 0 _ rfl
          have n6 := r1 1 _ rfl
          have n7 := r2 0 _ rfl
          have n8 := r2 1 _ rfl
          simp only [Nat.add_zero] at n5 n7
          have hx5 : (fn.toList == fn.toList) = true := by simp
          have i3 : (0 : Int) ≤ (j : Int) := by omega
          have i4 : (j : Int) < (nf : Int) := by omega
          clear r1 r2 hd hrd hTr hBr hjc HT3 HB3
          go_wp2_with fail
          go_quiet (fail)
          go_wp2_with fail
          go_roundw
          case rel => exact ⟨j + 1, by omega, by go_num, HT6.out.1.drewN _, below_drawn HT6.out.2 _⟩
          case measure => simp [intOf]; omega
        · obtain rfl : nf = j := by omega
          clear hTr hBr
          go_wp2_with fail
          go_roundw
          case rel => exact ⟨k + 1, by omega, by go_num, HT6.out.1⟩
          case measure => simp [intOf]; omega
    · obtain rfl : l1 = k := by omega
      have a3 : wr.cell? ⟨w.heap.size, 0, none⟩ = some (.slice q1 l1 j1) := hTr.c1 0
      have a4 : wr.cell? ⟨w.heap.size, 1, none⟩ = some (.slice q2 l2 j2) := hTr.c1 1
      clear hTr HT1
      go_wp2_with fail
      go_loopw [7] (fun i wr => ∃ k : Nat, k ≤ l2 ∧ i = .int .i64 (k : Nat) ∧ Two w wr [.slice q1 l1 j1, .slice q2 l2 j2] [.slice x1 l1 z1, .slice x2 l2 z2] 26) (fun i _ => l2 + 1 - (intOf i).toNat)
      case atStart => exact ⟨0, by omega, rfl, HT.out⟩
      case round =>
        obtain ⟨k, hk, rfl, hTr⟩ := hrel
        clear HT
        have HT : Hid (Two w wr [.slice q1 l1 j1, .slice q2 l2 j2] [.slice x1 l1 z1, .slice x2 l2 z2] 26) := hTr
        by_cases hlt : k < l2
        · have hkc : k < br.length := by have := HL2.out; omega
          obtain ⟨ga, gb, hq, hx, hrd⟩ := H22.out (by omega)
          have HQ : Hid (q2 = some ⟨ga, 0, none⟩ ∧ x2 = some ⟨gb, 0, none⟩) := ⟨hq, hx⟩
          have a3 : wr.cell? ⟨w.heap.size, 1, none⟩ = some (.slice (some ⟨ga, 0, none⟩) l2 j2) := by rw [← hq]; exact hTr.c1 1
          have b3 : wr.cell? ⟨w.heap.size + 1, 1, none⟩ = some (.slice (some ⟨gb, 0, none⟩) l2 z2) := by rw [← hx]; exact hTr.c2 1
          obtain ⟨A, B, r1, r2, o1, o2⟩ := hrd wr hTr.bel k hkc
          have hcall := same_rule br[k] (HWF.out _ (List.getElem_mem hkc)) wr.drew S T A B (o1.mono fun i hi hl => ⟨hi, rfl⟩) (o2.mono fun i hi hl => ⟨hi, rfl⟩)
          have hA7 : A.length = 7 := o1.1.symm
          have hB7 : B.length = 7 := o2.1.symm
          have HCM : Hid (Calls Tryd.prog 25 #[.agg A.toArray, .agg B.toArray] wr.drew fun e w' => e = .returned (.bool true) ∧ Below wr.drew.heap.size wr.drew w') := hcall
          have ZA : Hid ((Tryd.prog.info? 44).map (·.size) = some A.length ∧ (Tryd.prog.info? 44).map (·.size) = some B.length) := ⟨by rw [hA7]; kernel_rfl, by rw [hB7]; kernel_rfl⟩
          have HS0 : Hid ((fun w' => w'.cell? ⟨w.heap.size, 1, none⟩ = some (.slice (some ⟨ga, 0, none⟩) l2 j2) ∧ w'.cell? ⟨w.heap.size + 1, 1, none⟩ = some (.slice (some ⟨gb, 0, none⟩) l2 z2) ∧ w'.rangeAt ga (k * 7) A ∧ w'.rangeAt gb (k * 7) B) wr) := ⟨a3, b3, r1, r2⟩
          have i1 : (0 : Int) ≤ (k : Int) := by omega
          have i2 : (k : Int) < (l2 : Int) := by omega
          clear hcall r1 r2 o1 o2 hrd hTr hkc hq hx hA7 hB7
          go_wp2_with fail
          refine start_n (S := (fun w' => w'.cell? ⟨w.heap.size, 1, none⟩ = some (.slice (some ⟨ga, 0, none⟩) l2 j2) ∧ w'.cell? ⟨w.heap.size + 1, 1, none⟩ = some (.slice (some ⟨gb, 0, none⟩) l2 z2) ∧ w'.rangeAt ga (k * 7) A ∧ w'.rangeAt gb (k * 7) B)) 12 #[false, false, false, false, false, false, false, false, false, false, false, false] rfl rfl (by kernel_rfl) (by { have := HS0.out; exact this }) (fun hHeld => ?_)
          refine take_mk (i := 0) (v := ?v1) rfl (by kernel_rfl) (by kernel_rfl) (by kernel_rfl) (fun _ _ _ h => h) (Or.inl ⟨by rfl, ?hy1⟩) (by assumption) ?rest1
          case hy1 => (intro w0 hSw; (try dsimp only at hSw); go_simp <;> (try (with_reducible rfl)))
          (try simp only [Act.put, List.setIfInBounds_toArray, List.set_cons_zero, List.set_cons_succ])
          refine take_mk (i := 1) (v := ?v2) rfl (by kernel_rfl) (by kernel_rfl) (by kernel_rfl) (fun _ _ _ h => h) (Or.inl ⟨by rfl, ?hy2⟩) (by assumption) ?rest2
          case hy2 => (intro w0 hSw; (try dsimp only at hSw); go_simp <;> (try (with_reducible rfl)))
          (try simp only [Act.put, List.setIfInBounds_toArray, List.set_cons_zero, List.set_cons_succ])
          refine take_mk (i := 2) (v := ?v3) rfl (by kernel_rfl) (by kernel_rfl) (by kernel_rfl) (fun _ _ _ h => h) (Or.inl ⟨by rfl, ?hy3⟩) (by assumption) ?rest3
          case hy3 => (intro w0 hSw; (try dsimp only at hSw); go_simp <;> (try (with_reducible rfl)))
          (try simp only [Act.put, List.setIfInBounds_toArray, List.set_cons_zero, List.set_cons_succ])
          refine take_mk (i := 3) (v := ?v4) rfl (by kernel_rfl) (by kernel_rfl) (by kernel_rfl) (fun _ _ _ h => h) (Or.inl ⟨by rfl, ?hy4⟩) (by assumption) ?rest4
          case hy4 => (intro w0 hSw; (try dsimp only at hSw); go_simp <;> (try (with_reducible rfl)))
          (try simp only [Act.put, List.setIfInBounds_toArray, List.set_cons_zero, List.set_cons_succ])
          refine take_mk (i := 4) rfl (by kernel_rfl) (by kernel_rfl) (by kernel_rfl) (fun _ _ _ h => h) (yieldsIf_load_mid (by rfl) 44 _ rfl ga (k * 7) (by rfl) A _ (fun _ h => h.2.2.1) Tryd.underlying44 rfl ZA.out.1) (by assumption) ?_
          (try simp only [Act.put, List.setIfInBounds_toArray, List.set_cons_zero, List.set_cons_succ])
          refine take_mk (i := 5) (v := ?v5) rfl (by kernel_rfl) (by kernel_rfl) (by kernel_rfl) (fun _ _ _ h => h) (Or.inl ⟨by rfl, ?hy5⟩) (by assumption) ?rest5
          case hy5 => (intro w0 hSw; (try dsimp only at hSw); go_simp <;> (try (with_reducible rfl)))
          (try simp only [Act.put, List.setIfInBounds_toArray, List.set_cons_zero, List.set_cons_succ])
          refine take_mk (i := 6) (v := ?v6) rfl (by kernel_rfl) (by kernel_rfl) (by kernel_rfl) (fun _ _ _ h => h) (Or.inl ⟨by rfl, ?hy6⟩) (by assumption) ?rest6
          case hy6 => (intro w0 hSw; (try dsimp only at hSw); go_simp <;> (try (with_reducible rfl)))
          (try simp only [Act.put, List.setIfInBounds_toArray, List.set_cons_zero, List.set_cons_succ])
          refine take_mk (i := 7) (v := ?v7) rfl (by kernel_rfl) (by kernel_rfl) (by kernel_rfl) (fun _ _ _ h => h) (Or.inl ⟨by rfl, ?hy7⟩) (by assumption) ?rest7
          case hy7 => (intro w0 hSw; (try dsimp only at hSw); go_simp <;> (try (with_reducible rfl)))
          (try simp only [Act.put, List.setIfInBounds_toArray, List.set_cons_zero, List.set_cons_succ])
          refine take_mk (i := 8) (v := ?v8) rfl (by kernel_rfl) (by kernel_rfl) (by kernel_rfl) (fun _ _ _ h => h) (Or.inl ⟨by rfl, ?hy8⟩) (by assumption) ?rest8
          case hy8 => (intro w0 hSw; (try dsimp only at hSw); go_simp <;> (try (with_reducible rfl)))
          (try simp only [Act.put, List.setIfInBounds_toArray, List.set_cons_zero, List.set_cons_succ])
          refine take_mk (i := 9) rfl (by kernel_rfl) (by kernel_rfl) (by kernel_rfl) (fun _ _ _ h => h) (yieldsIf_load_mid (by rfl) 44 _ rfl gb (k * 7) (by rfl) B _ (fun _ h => h.2.2.2) Tryd.underlying44 rfl ZA.out.2) (by assumption) ?_
          (try simp only [Act.put, List.setIfInBounds_toArray, List.set_cons_zero, List.set_cons_succ])
          refine wpAnyH_ready (rs := [10]) (by kernel_rfl) (by simp) ?_
          refine cons_mk rfl (fun K hK => ?_) AllReadyH.nil
          refine step_call2g 25 ent_rul (by rfl) _ _ _ (by rfl) (.agg A.toArray) (.agg B.toArray) (by rfl) (by rfl) _ HCM.out ?_
          rintro e w5 ⟨rfl, hb5⟩
          refine ⟨_, rfl, ?_⟩
          have HT5 : Hid (Two w w5 [.slice q1 l1 j1, .slice q2 l2 j2] [.slice x1 l1 z1, .slice x2 l2 z2] 26) := HT.out.drew.next hb5
          have HS5 : Hid ((fun w' => w'.cell? ⟨w.heap.size, 1, none⟩ = some (.slice (some ⟨ga, 0, none⟩) l2 j2) ∧ w'.cell? ⟨w.heap.size + 1, 1, none⟩ = some (.slice (some ⟨gb, 0, none⟩) l2 z2) ∧ w'.rangeAt ga (k * 7) A ∧ w'.rangeAt gb (k * 7) B) w5) := ⟨by { rw [← HQ.out.1]; exact HT5.out.c1 1 }, by { rw [← HQ.out.2]; exact HT5.out.c2 1 }, range_bel HS0.out.2.2.1 hb5, range_bel HS0.out.2.2.2 hb5⟩
          clear hb5
          refine hK.out _ _ (by { have := HS5.out; exact this }) (fun hHeld => ?_)
          clear hK K
          (try simp only [Act.put, List.setIfInBounds_toArray, List.set_cons_zero, List.set_cons_succ])
          refine take_mk (i := 11) (v := ?v9) rfl (by kernel_rfl) (by kernel_rfl) (by kernel_rfl) (fun _ _ _ h => h) (Or.inl ⟨by rfl, ?hy9⟩) (by assumption) ?rest9
          case hy9 => (intro w0 hSw; (try dsimp only at hSw); go_simp <;> (try (with_reducible rfl)))
          (try simp only [Act.put, List.setIfInBounds_toArray, List.set_cons_zero, List.set_cons_succ])
          refine wpAnyH_done (by kernel_rfl) ?_ _
          clear hHeld a3 b3
          go_wp2_with fail
          go_roundw
          case rel => exact ⟨k + 1, by omega, by go_num, HT5.out⟩
          case measure => simp [intOf]; omega
        · obtain rfl : l2 = k := by omega
          have a3 : wr.cell? ⟨w.heap.size, 1, none⟩ = some (.slice q2 l2 j2) := hTr.c1 1
          clear hTr
          go_wp2_with fail
          go_ret
          exact ⟨rfl, HT.out.bel⟩
end Go.Proofs.YtnlmkdncifijlaaDoor.Ref
namespace Go.Proofs.YtnlmkdncifijlaaDoor.Ref
open Go.ChangeShapes Go.WideShapes Go.ChangeAt Go.RowKit Go.Maps
set_option linter.unusedVariables false
set_option linter.unusedSimpArgs false
set_option maxRecDepth 20000
theorem wpList_copy {ops : Array Oper} {rest : List Oper} {o : Oper} {a : Act} {w : World} {Q : Exit → Act → World → Prop} (hgd : o.guard = none) (s x : Operand)
    (ho : o.op = .call { callee := .builtin .append, args := #[s, x], argTypes := #[22, 22] }) (v : Value) (l : List Tk) (hs : a.eval s = .slice none 0 0) (hx : a.eval x = v) (hd : TokensAt w v l) (hb : l.length * 32 ≤ 140737488355328)
    (h : ∀ v' w', w'.ownsRow w.heap.size 65 3 v' l.length (l.flatMap encT) → Below w.heap.size w w' → wpList Tryd.prog ops Q rest (a.put o.dst v') w') : wpList Tryd.prog ops Q (o :: rest) a w := by
  refine wpList_plain hgd fun K hK => ?_
  obtain ⟨v', w', hr, h2, h3⟩ := run_copy w o.type hd hb
  unfold Oper.wp execOp
  simp only [ho, resolve, invoke, builtin, Sem.run_bind, Sem.run_pure, Result.andThen_ok, List.map_toArray, List.map_cons, List.map_nil, hs, hx, hr]
  exact hK _ _ (h v' w' h2 h3)
theorem toks_low {w : World} {V : Value} {L : List Tk} (h : TokensAt w V L) : 0 < L.length → ∀ b, V.ownBlock = some b → b < w.heap.size := fun h0 b hb => by
  obtain ⟨p, cap, rfl, _, _, h3⟩ := h
  obtain ⟨g, off, rfl, h4⟩ := h3 h0
  have : b = g := by simpa [Value.ownBlock] using hb.symm
  rw [this]
  exact (h4 0 h0).1
set_option maxHeartbeats 8000000 in
theorem parseParses_walk (v : Value) (l : List Tk) (w : World) (hv : TokensAt w v l) (hw : ∀ t, t ∈ l → wfT t) (hB : Tbs w) (hb : l.length * 32 ≤ 140737488355328) :
    Calls Tryd.prog 3 #[v] w fun e w' => e = .returned (.bool true) ∧ Below w.heap.size w w' := by
  have HV : Hid (TokensAt w v l) := hv
  have HT : Hid (Tbs w) := hB
  have HBN : Hid (l.length * 32 ≤ 140737488355328) := hb
  have hwf := prs_wf l
  obtain ⟨pu, cu, rfl, _⟩ := hv
  obtain ⟨⟨bk, at_, er⟩, hA⟩ : ∃ A, prs' l = A := ⟨_, rfl⟩
  rw [hA] at hwf
  have HWF : Hid (∀ r, r ∈ bk.r → WfR r) := hwf
  obtain ⟨nt, hnt⟩ : ∃ nt, bk.t.length = nt := ⟨_, rfl⟩
  obtain ⟨nr, hnr⟩ : ∃ nr, bk.r.length = nr := ⟨_, rfl⟩
  have HP : Hid (∀ u W, TokensAt W u l → (∀ b, u.ownBlock = some b → b < W.heap.size) → Tbs W → Calls Tryd.prog 6 #[u] W fun e w' => ∃ p1 c1 p2 c2, e = .returned (.tuple #[.agg #[.slice p1 nt c1, .slice p2 nr c2], .int .i64 at_, .int .i64 er]) ∧ HoldsL w' (fun i => W.heap.size ≤ i) (encB bk) [.slice p1 nt c1, .slice p2 nr c2] ∧ Below W.heap.size W w') := fun u W h1 h2 h3 => by
    have h9 := parse_any W u l h1 h2 h3
    rw [← prs_same l, hA] at h9
    unfold APost at h9
    simp only [hnt, hnr] at h9
    exact h9
  have HQ : Hid (∀ u W, TokensAt W u l → Calls Tryd.prog 7 #[u] W fun e w' => ∃ p1 c1 p2 c2, e = .returned (.tuple #[.agg #[.slice p1 nt c1, .slice p2 nr c2], .int .i64 at_, .int .i64 er]) ∧ HoldsL w' (fun i => W.heap.size ≤ i) (encB bk) [.slice p1 nt c1, .slice p2 nr c2] ∧ Below W.heap.size W w') := fun u W h1 => by
    have h9 := parseOf_any W u l h1 (toks_low h1) (fun t ht => by have := (hw t ht).2.1; unfold maxLen at this; omega)
    rw [hA] at h9
    unfold APost at h9
    simp only [hnt, hnr] at h9
    exact h9
  clear hw hB hb hA hwf hnt hnr
  go_enter Tryd.func3, Tryd.ntmps3
  go_wp2_with (first
    | (go_at_call 9; refine (same_law _ _ l _ HC5.out.1 HC5.out.2).mono ?_; rintro e w6 ⟨rfl, q, rfl⟩)
    | (go_at_call 8; refine (same_book bk HWF.out _ _ _ _ _ _ _ HH4.out.1 HH4.out.2).mono ?_; rintro e w5 ⟨rfl, hb_⟩; have HB5 : Hid (Below w.heap.size w w5) := below_trans HB4.out hb_ HB4.out.size; have HC5 : Hid (TokensAt w5 (.slice pc l.length cc) l ∧ TokensAt w5 (.slice pu l.length cu) l) := ⟨HC4.out.1.below hb_, HC4.out.2.below hb_⟩; clear hb_)
    | (go_at_call 7; refine (HQ.out _ _ HC3.out.2).mono ?_; rintro e w4 ⟨y1, d1, y2, d2, rfl, hh_, hb_⟩; have HB4 : Hid (Below w.heap.size w (w4.alloc (.cells #[.slice y1 nt d1, .slice y2 nr d2] 26))) := (below_trans HB3.out hb_ HB3.out.size).alloc (by { have h1 := hb_.size; have h2 := HB3.out.size; omega }) _; have HC4 : Hid (TokensAt (w4.alloc (.cells #[.slice y1 nt d1, .slice y2 nr d2] 26)) (.slice pc l.length cc) l ∧ TokensAt (w4.alloc (.cells #[.slice y1 nt d1, .slice y2 nr d2] 26)) (.slice pu l.length cu) l) := ⟨(HC3.out.1.below hb_).below (below_new _ _), (HC3.out.2.below hb_).below (below_new _ _)⟩; have HH4 : Hid (HoldsL (w4.alloc (.cells #[.slice y1 nt d1, .slice y2 nr d2] 26)) (fun i => w1.heap.size ≤ i) (encB bk) [.slice p1 nt c1, .slice p2 nr c2] ∧ HoldsL (w4.alloc (.cells #[.slice y1 nt d1, .slice y2 nr d2] 26)) (fun i => (w2.alloc (.cells #[.slice p1 nt c1, .slice p2 nr c2] 26)).heap.size ≤ i) (encB bk) [.slice y1 nt d1, .slice y2 nr d2]) := ⟨HoldsL.bel (HoldsL.bel HH3.out hb_) (below_new _ _), HoldsL.bel hh_ (below_new _ _)⟩; have HK4 : Hid (w4.heap[w2.heap.size]? = some (.cells [.slice p1 nt c1, .slice p2 nr c2].toArray 26 (0, 0))) := (hb_.block _ (by { simp })).trans (heap_alloc_new _ _); have hlt4 : w2.heap.size < w4.heap.size := blk_lt HK4.out; have z0 : (w4.alloc (.cells #[.slice y1 nt d1, .slice y2 nr d2] 26)).cell? ⟨w2.heap.size, 0, none⟩ = some (.slice p1 nt c1) := (((Below.refl _ w4).alloc (Nat.le_refl _) _).cell (p := ⟨w2.heap.size, 0, none⟩) hlt4).trans (by { rw [cell_of_blk HK4.out]; rfl }); have z1 : (w4.alloc (.cells #[.slice y1 nt d1, .slice y2 nr d2] 26)).cell? ⟨w2.heap.size, 1, none⟩ = some (.slice p2 nr c2) := (((Below.refl _ w4).alloc (Nat.le_refl _) _).cell (p := ⟨w2.heap.size, 1, none⟩) hlt4).trans (by { rw [cell_of_blk HK4.out]; rfl }); clear hh_ hb_ hlt4)
    | (go_at_call 6; refine (HP.out _ _ HC1.out HO1.out (HT.out.below HB1.out)).mono ?_; rintro e w2 ⟨p1, c1, p2, c2, rfl, hh_, hb_⟩; have HB3 : Hid (Below w.heap.size w (w2.alloc (.cells #[.slice p1 nt c1, .slice p2 nr c2] 26))) := (below_trans HB1.out hb_ HB1.out.size).alloc (by { have h1 := hb_.size; have h2 := HB1.out.size; omega }) _; have HC3 : Hid (TokensAt (w2.alloc (.cells #[.slice p1 nt c1, .slice p2 nr c2] 26)) (.slice pc l.length cc) l ∧ TokensAt (w2.alloc (.cells #[.slice p1 nt c1, .slice p2 nr c2] 26)) (.slice pu l.length cu) l) := ⟨(HC1.out.below hb_).below (below_new _ _), HV.out.below HB3.out⟩; have HH3 : Hid (HoldsL (w2.alloc (.cells #[.slice p1 nt c1, .slice p2 nr c2] 26)) (fun i => w1.heap.size ≤ i) (encB bk) [.slice p1 nt c1, .slice p2 nr c2]) := HoldsL.bel hh_ (below_new _ _); clear hh_ hb_)
    | (at_builtin; refine wpList_copy (by rfl) _ _ (by rfl) (.slice pu l.length cu) l (by rfl) (by rfl) HV.out HBN.out ?_; intro v' w1 hown hb1; have HB1 : Hid (Below w.heap.size w w1) := hb1; have HC1 : Hid (TokensAt w1 v' l) := toks_own hown; have HO1 : Hid (∀ b, v'.ownBlock = some b → b < w1.heap.size) := fun b hb => (own_block_some hown hb).2; obtain ⟨pc, cc, hvv⟩ := own_shape hown; subst hvv; clear hown hb1))
  go_ret
  exact ⟨rfl, below_drawn HB5.out q⟩
end Go.Proofs.YtnlmkdncifijlaaDoor.Ref
