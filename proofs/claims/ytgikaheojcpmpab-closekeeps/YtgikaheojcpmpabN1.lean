/-
  Raw numbers, picked; a matrix of raw numbers.
-/
import Derived.Test.YtgikaheojcpmpabI
import Derived.Test.YtgikaheojcpmpabP2
import Derived.Deep.RegionWith
import Derived.Shelf.Abstract
namespace Go.Proofs.Ytgikaheojcpmpab
open Go.ChangeShapes Go.WideShapes Go.ChangeAt Go.RowKit Go.Maps
set_option linter.unusedVariables false
set_option linter.unusedSimpArgs false
set_option maxRecDepth 20000
theorem tm_bd (n m : Int) (hn : n < 0) (hm : 0 < m) : 0 ≤ -((n + 1).tmod m) ∧ -((n + 1).tmod m) < m := by
  have e : -((n + 1).tmod m) = (-(n + 1)).tmod m := (Int.neg_tmod _ _).symm
  rw [e]
  exact ⟨Int.tmod_nonneg _ (by omega), Int.tmod_lt_of_pos _ hm⟩
def pkd (n m : Int) : Int := if 0 ≤ n then n % m else -((n + 1).tmod m)
theorem pkd_in (n : Int) {m : Int} (hm : 0 < m) : 0 ≤ pkd n m ∧ pkd n m < m := by
  unfold pkd
  split
  · exact ⟨Int.emod_nonneg n (by omega), Int.emod_lt_of_pos n hm⟩
  · rename_i h
    exact tm_bd n m (by omega) hm
set_option maxHeartbeats 1000000 in
theorem picked_any (n m : Int) (w : World) (hn1 : -9223372036854775808 ≤ n) (hn2 : n ≤ 9223372036854775807) (hm : 0 < m) (hm2 : m ≤ 1099511627776) :
    Calls Try.prog 9 #[.int .i64 n, .int .i64 m] w fun e w' => e = .returned (.int .i64 (pkd n m)) ∧ w' = w := by
  have hm0 : ¬ m = 0 := by omega
  by_cases h : 0 ≤ n
  · have HP := hid (show pkd n m = n % m by unfold pkd; rw [if_pos h])
    go_enter Try.func9, Try.ntmps9
    go_wp2
    go_ret
    rw [HP.out]
    exact ⟨rfl, rfl⟩
  · have h' : n < 0 := by omega
    have HP := hid (show pkd n m = -((n + 1).tmod m) by unfold pkd; rw [if_neg h])
    go_enter Try.func9, Try.ntmps9
    go_wp2
    go_ret
    rw [HP.out]
    exact ⟨rfl, rfl⟩
theorem start_n {P : Program} {ops : Array Oper} {Q : Exit → Act → World → Prop} {S : World → Prop} {id : Nat} {a : Act} {w : World} (n : Nat) (l : Array Bool) (hn : ops.size = n) (hl : Array.replicate n false = l) (hm : P.follows .mixedOrders = true) (hS : S w.drew)
    (h : S w.drew → wpAnyH P .any ops Q S n l a w.drew) : (Code.region id ops true).wp P Q a w := by
  subst hn hl
  exact wp_region_held_drew hm hS h
theorem take_mk {P : Program} {ops : Array Oper} {Q : Exit → Act → World → Prop} {md : Region.Mode} {S : World → Prop} {i : Nat} {d : _} {op : _} {t : _} {p : _} {af : _} {gd : _} {v : Value} {fuel : Nat} {listed : Array Bool} {a : Act} {w : World} (hi : ops[i]? = some (Oper.mk d op t p af gd))
    (hs : Region.noSelect ops = true) (hf : Region.free md ops listed i = true) (hr : (Region.ready md ops listed).contains i = true) (hQ : ∀ c a w, Q (.panic c) (a.put d v) w → Q (.panic c) a w) (hy : YieldsIf P ops S (Oper.mk d op t p af gd) v a) (hS : S w)
    (h : wpAnyH P md ops Q S fuel (listed.setIfInBounds i true) (a.put d v) w) : wpAnyH P md ops Q S (fuel + 1) listed a w := wpAnyH_take hi hs hf hr hQ hy hS h
theorem cons_mk {P : Program} {ops : Array Oper} {Q : Exit → Act → World → Prop} {md : Region.Mode} {S : World → Prop} {i : Nat} {d : _} {op : _} {t : _} {p : _} {af : _} {gd : _} {fuel : Nat} {listed : Array Bool} {a : Act} {w : World} {rs : List Nat} (ho : ops[i]? = some (Oper.mk d op t p af gd))
    (h : ∀ K' : Act → World → Prop, Shut (∀ a w, S w → (S w → wpAnyH P md ops Q S fuel (listed.setIfInBounds i true) a w) → K' a w) → if Region.wanted (Oper.mk d op t p af gd) (yielded ops a.tmps) = true then Oper.wp P (Oper.mk d op t p af gd) a w K' Q else K' (a.put d undef) w)
    (hs : AllReadyH P md ops Q S fuel listed a w rs) : AllReadyH P md ops Q S fuel listed a w (i :: rs) := AllReadyH.cons ho h hs
theorem step_call2 {ops : Array Oper} {o : Oper} {a : Act} {w : World} {K : Act → World → Prop} {Q : Exit → Act → World → Prop} {E : Prop} (f : FuncId) (he : ∀ args w, (callFunc f args).run Try.prog w = .ok (.enter f args) w) (hgd : o.guard = none) (s x : Operand) (ts : Array TypeId) (ho : o.op = .call { callee := .value (.func f), args := #[s, x], argTypes := ts }) (u1 u2 : Value) (h1 : a.eval s = u1) (h2 : a.eval x = u2)
    (R : Ending → World → Prop) (hc : Calls Try.prog f #[u1, u2] w R) (h : ∀ e w', R e w' → ∃ v, e = .returned v ∧ K (a.put o.dst v) w') :
    if Region.wanted o (yielded ops a.tmps) = true then Oper.wp Try.prog o a w K Q else E := by
  have hw : Region.wanted o (yielded ops a.tmps) = true := by simp [Region.wanted, hgd]
  rw [if_pos hw]
  unfold Oper.wp execOp
  have hf : a.eval (.func f) = Value.func (Fn.func f) #[] #[] := rfl
  simp [ho, resolve, invoke, Deferred.ofValue, hf, h1, h2, he]
  refine hc.mono ?_
  intro e w' hr
  obtain ⟨v, rfl, hk⟩ := h e w' hr
  exact hk
theorem ent_picked : ∀ args w, (callFunc 9 args).run Try.prog w = .ok (.enter 9 args) w := enters_of Try.func9 (by kernel_rfl) rfl
theorem cellT {W : World} {p : Addr} {u v : Value} (h : W.cell? p = some u) : (W.setCell p v).cell? p = some v := World.cell?_setCell_same _ _ _ h
theorem td_in (u m : Int) (h1 : -9223372036854775808 ≤ u) (h2 : u ≤ 9223372036854775807) (hm : 1 < m) : -9223372036854775808 ≤ u.tdiv m ∧ u.tdiv m ≤ 9223372036854775807 := by
  by_cases h : 0 ≤ u
  · rw [Int.tdiv_eq_ediv_of_nonneg h]
    have a := Int.ediv_nonneg h (by omega : 0 ≤ m)
    have b := Int.ediv_le_self m h
    omega
  · have e : u.tdiv m = -((-u) / m) := by
      rw [← Int.tdiv_eq_ediv_of_nonneg (by omega : 0 ≤ -u), Int.neg_tdiv, Int.neg_neg]
    rw [e]
    have a := Int.ediv_nonneg (by omega : 0 ≤ -u) (by omega : 0 ≤ m)
    have b : (-u) / m < -u := Int.ediv_lt_self_of_pos_of_ne_one (by omega) (by omega)
    omega
/-- A matrix of raw numbers: 0 from each to itself, else none or from -15 to 44. -/
def Raw (n : Nat) (Z : Mx) : Prop := (∀ i, i < n → Z i i = 0) ∧ ∀ a b, a < n → b < n → Z a b = 1152921504606846976 ∨ (-15 ≤ Z a b ∧ Z a b ≤ 44)
theorem raw_fre (n : Nat) : Raw n fre := ⟨fun i hi => by simp [fre], fun a b ha hb => by unfold fre; split <;> omega⟩
theorem raw_upd {n : Nat} {Z : Mx} (h : Raw n Z) {x y : Nat} (hxy : x ≠ y) {v : Int} (h1 : -15 ≤ v) (h2 : v ≤ 44) : Raw n (upd Z x y v) := by
  refine ⟨fun i hi => ?_, fun a b ha hb => ?_⟩
  · rw [upd, if_neg (by omega)]; exact h.1 i hi
  · unfold upd
    split
    · omega
    · exact h.2 a b ha hb
set_option maxHeartbeats 16000000 in
theorem matrix_any (s : Int) (v : Value) (l : Nat) (z : Nat → Int) (w : World) (h : RowAt w v l z) (hz : ∀ k, k < l → -9223372036854775808 ≤ z k ∧ z k ≤ 9223372036854775807) (hs1 : -9223372036854775808 ≤ s) (hs2 : s ≤ 9223372036854775807) :
    Calls Try.prog 6 #[.int .i64 s, v] w fun e w' => (∃ V, e = .returned V ∧ ∃ Z, New w w' V (pkd s 6).toNat (fun _ => (pkd s 6).toNat) Z ∧ Raw (pkd s 6).toNat Z) ∧ Below w.heap.size w w' := by
  obtain ⟨p, cap, rfl, hl, hc, hp⟩ := h
  have hmx : (l : Int) ≤ 9223372036854775807 := by unfold maxLen at hc; omega
  have HP : Hid (0 < l → ∃ g off, p = some ⟨g, off, none⟩ ∧ ∀ k, k < l → w.cell? ⟨g, off + k, none⟩ = some (.int .i64 (z k))) := hp
  have HZ := hid hz
  have HPK := hid (fun W => picked_any s 6 W hs1 hs2 (by decide) (by decide))
  obtain ⟨n, hn⟩ : ∃ n : Nat, pkd s 6 = (n : Int) := ⟨(pkd s 6).toNat, by have := pkd_in s (m := 6) (by decide); omega⟩
  have hn6 : n ≤ 5 := by have := pkd_in s (m := 6) (by decide); omega
  rw [hn] at HPK ⊢
  rw [show ((n : Int)).toNat = n by omega]
  have HN := hid (show n ≤ 12 by omega)
  have n1 : (0 : Int) ≤ (n : Int) := by omega
  have n2 : (n : Int) ≤ 5 := by omega
  clear hp hl hc hz hn hs1 hs2
  go_enter Try.func6, Try.ntmps6
  go_wp2_with fail
  refine (HPK.out _).mono ?_
  rintro e w ⟨rfl, rfl⟩
  go_wp2_with fail
  refine (freeP_any n _ HN.out).mono ?_
  rintro e w1 ⟨⟨V, rfl, hNew⟩, hB1⟩
  obtain ⟨p3, cap3, b3, G, C, rfl, hp3, hc3, hc4, hO⟩ := hNew
  have HO := hid hO
  have HB1 := hid hB1
  have HP3 := hid hp3
  have HC := hid (And.intro hc3 hc4)
  clear hO hB1 hp3 hc3 hc4
  go_wp2_with fail
  go_loopg [8] 21 (fun gg io wr => ∃ (i : Nat) (Q : Mx), i ≤ 20 ∧ gg = 21 - i ∧ io = .int .i64 (i : Nat) ∧ OwnM wr w.heap.size b3 n (fun _ => n) G C Q ∧ Raw n Q ∧ Below w.heap.size w wr)
  case atStart => exact ⟨0, fre, by omega, by omega, rfl, HO.out, raw_fre n, HB1.out⟩
  case round =>
    obtain ⟨i, Q, hi, rfl, rfl, hO1, hQ1, hBr⟩ := hrel
    have HO1 := hid hO1
    have HQ1 := hid hQ1
    have HBR := hid hBr
    clear hO1 hQ1
    have i1 : (0 : Int) ≤ (i : Int) := by omega
    have i3 : (i : Int) ≤ 20 := by omega
    by_cases h1 : i < l
    · have i2 : (i : Int) < (l : Int) := by omega
      by_cases h2 : i < 20
      · have i4 : (i : Int) < 20 := by omega
        by_cases h3 : 0 < n
        · have n3 : (0 : Int) < (n : Int) := by omega
          obtain rfl := HP3.out h3
          obtain ⟨g, off, rfl, hrd⟩ := HP.out (by omega)
          have lg := World.block_lt_of_cell? _ _ (hrd i h1)
          have a0 := (hBr.cell (p := ⟨g, off + i, none⟩) lg).trans (hrd i h1)
          obtain ⟨z1, z2⟩ := HZ.out i h1
          obtain ⟨u, hu⟩ : ∃ u, z i = u := ⟨_, rfl⟩
          rw [hu] at a0 z1 z2
          have HK1 := hid (fun W => picked_any u n W z1 z2 n3 (by omega))
          obtain ⟨x, hx⟩ : ∃ x : Nat, pkd u n = (x : Int) := ⟨(pkd u n).toNat, by have := pkd_in u n3; omega⟩
          have hxn : x < n := by have := pkd_in u n3; omega
          rw [hx] at HK1
          clear hrd hBr hu hx
          go_wp2_with fail
          refine (HK1.out _).mono ?_
          rintro e wr ⟨rfl, rfl⟩
          go_wp2_with fail
          obtain ⟨t1, t2⟩ := td_in u 7 z1 z2 (by decide)
          have HK2 := hid (fun W => picked_any (u.tdiv 7) n W t1 t2 n3 (by omega))
          obtain ⟨y, hy⟩ : ∃ y : Nat, pkd (u.tdiv 7) n = (y : Int) := ⟨(pkd (u.tdiv 7) n).toNat, by have := pkd_in (u.tdiv 7) n3; omega⟩
          have hyn : y < n := by have := pkd_in (u.tdiv 7) n3; omega
          rw [hy] at HK2
          obtain ⟨t3, t4⟩ := td_in u 49 z1 z2 (by decide)
          have HK3 := hid (fun W => picked_any (u.tdiv 49) 60 W t3 t4 (by decide) (by decide))
          obtain ⟨q1, q2⟩ := pkd_in (u.tdiv 49) (m := 60) (by decide)
          obtain ⟨r, hr⟩ : ∃ r, pkd (u.tdiv 49) 60 = r := ⟨_, rfl⟩
          rw [hr] at HK3 q1 q2
          have w3 : RowKit.wrap64 (u.tdiv 49) = u.tdiv 49 := wrap_id t3 t4
          have w4 : IntKind.i64.wrap (u.tdiv 49) = u.tdiv 49 := (IntWalk.i64_left _).trans w3
          clear hy t1 t2 t3 t4 hr
          refine (HK2.out _).mono ?_
          rintro e wr ⟨rfl, rfl⟩
          by_cases hxy : x = y
          · have d : ((x : Int) != (y : Int)) = false := by rw [hxy]; simp
            clear hxy
            go_wp2_with fail
            go_roundg (21 - (i + 1))
            case rel => exact ⟨i + 1, Q, by omega, rfl, by go_num, HO1.out, HQ1.out, HBR.out⟩
            case measure => omega
          · have d : ((x : Int) != (y : Int)) = true := by simp; omega
            have x1 : (0 : Int) ≤ (x : Int) := by omega
            have x2 : (x : Int) < (n : Int) := by omega
            have y1 : (0 : Int) ≤ (y : Int) := by omega
            have y2 : (y : Int) < (n : Int) := by omega
            obtain ⟨q, c1, hc1⟩ := HO1.out.top x hxn
            rw [hc1 (by omega)] at c1
            have c2 := (HO1.out.row x hxn (by omega)).cell hyn
            have c3 := (HO1.out.row x hxn (by omega)).frozen y
            have hcp := (HO1.out.cp x hxn).1
            have HST := hid (fun (v : Int) => (HO1.out.drew.set (k := y) hxn hyn v))
            have HSE := hid (fun (v : Int) => HBR.out.drew.setCell (p := ⟨G x, y, none⟩) (HO1.out.gB x hxn (by omega)) (.int .i64 v))
            have hB := HQ1.out.2 x y hxn hyn
            have HRU := hid (fun (v : Int) (h1 : -15 ≤ v) (h2 : v ≤ 44) => raw_upd HQ1.out hxy h1 h2)
            obtain ⟨gi, hgi⟩ : ∃ g, G x = g := ⟨_, rfl⟩
            obtain ⟨ci, hci⟩ : ∃ g, C x = g := ⟨_, rfl⟩
            obtain ⟨x3, hx3⟩ : ∃ v, Q x y = v := ⟨_, rfl⟩
            rw [hgi, hci] at c1
            rw [hgi, hx3] at c2
            rw [hgi] at c3 HST HSE
            rw [hci] at hcp
            rw [hx3] at hB
            have w1 : IntKind.i64.wrap (r - 15) = r - 15 := by go_unwrap
            have w2 : RowKit.wrap64 (r - 15) = r - 15 := wrap_id (by omega) (by omega)
            have HX3 := hid hx3
            have nb : b3 ≠ gi := by rw [← hgi]; exact fun c => HO1.out.gb x hxn (by omega) c.symm
            have ng : g ≠ gi := by
              have h1 : w.heap.size ≤ G x := HO1.out.gB x hxn (by omega)
              rw [hgi] at h1
              have lg' : g < w.heap.size := lg
              omega
            clear hgi hci hx3 hc1 hxy lg
            have HBB := hid hB
            have HQQ := hid (And.intro q1 q2)
            have HKS0 : Hid (wr.drew.cell? ⟨b3, x, none⟩ = some (.slice (some ⟨gi, 0, none⟩) n ci) ∧ wr.drew.cell? ⟨g, off + i, none⟩ = some (.int .i64 u)) := ⟨c1, a0⟩
            have HKS : Hid (∀ v, (wr.drew.setCell ⟨gi, y, none⟩ v).cell? ⟨b3, x, none⟩ = some (.slice (some ⟨gi, 0, none⟩) n ci) ∧ (wr.drew.setCell ⟨gi, y, none⟩ v).cell? ⟨g, off + i, none⟩ = some (.int .i64 u)) := fun v => ⟨cellS (W := wr.drew) c1 nb, cellS (W := wr.drew) a0 ng⟩
            clear hB z1 z2 q1 q2
            go_wp2_with fail
            refine start_n (S := (fun w' => w'.cell? ⟨b3, x, none⟩ = some (.slice (some ⟨gi, 0, none⟩) n ci) ∧ w'.cell? ⟨g, off + i, none⟩ = some (.int .i64 u))) 22 #[false, false, false, false, false, false, false, false, false, false, false, false, false, false, false, false, false, false, false, false, false, false] rfl rfl (by kernel_rfl) (by exact HKS0.out) (fun hHeld => ?_)
            refine take_mk (i := 0) (v := ?v7) rfl (by kernel_rfl) (by kernel_rfl) (by kernel_rfl) (fun _ _ _ h => h) (Or.inl ⟨by rfl, ?hy7⟩) (by assumption) ?rest7
            case hy7 => (intro w0 hSw; (try dsimp only at hSw); go_simp <;> (try (with_reducible rfl)))
            (try simp only [Act.put, List.setIfInBounds_toArray, List.set_cons_zero, List.set_cons_succ])
            refine take_mk (i := 1) (v := ?v8) rfl (by kernel_rfl) (by kernel_rfl) (by kernel_rfl) (fun _ _ _ h => h) (Or.inl ⟨by rfl, ?hy8⟩) (by assumption) ?rest8
            case hy8 => (intro w0 hSw; (try dsimp only at hSw); go_simp <;> (try (with_reducible rfl)))
            (try simp only [Act.put, List.setIfInBounds_toArray, List.set_cons_zero, List.set_cons_succ])
            refine take_mk (i := 2) (v := ?v9) rfl (by kernel_rfl) (by kernel_rfl) (by kernel_rfl) (fun _ _ _ h => h) (Or.inl ⟨by rfl, ?hy9⟩) (by assumption) ?rest9
            case hy9 => (intro w0 hSw; (try dsimp only at hSw); go_simp <;> (try (with_reducible rfl)))
            (try simp only [Act.put, List.setIfInBounds_toArray, List.set_cons_zero, List.set_cons_succ])
            refine take_mk (i := 3) (v := ?v10) rfl (by kernel_rfl) (by kernel_rfl) (by kernel_rfl) (fun _ _ _ h => h) (Or.inl ⟨by rfl, ?hy10⟩) (by assumption) ?rest10
            case hy10 => (intro w0 hSw; (try dsimp only at hSw); go_simp <;> (try (with_reducible rfl)))
            (try simp only [Act.put, List.setIfInBounds_toArray, List.set_cons_zero, List.set_cons_succ])
            refine take_mk (i := 4) (v := ?v11) rfl (by kernel_rfl) (by kernel_rfl) (by kernel_rfl) (fun _ _ _ h => h) (Or.inl ⟨by rfl, ?hy11⟩) (by assumption) ?rest11
            case hy11 => (intro w0 hSw; (try dsimp only at hSw); go_simp <;> (try (with_reducible rfl)))
            (try simp only [Act.put, List.setIfInBounds_toArray, List.set_cons_zero, List.set_cons_succ])
            refine take_mk (i := 5) (v := ?v12) rfl (by kernel_rfl) (by kernel_rfl) (by kernel_rfl) (fun _ _ _ h => h) (Or.inl ⟨by rfl, ?hy12⟩) (by assumption) ?rest12
            case hy12 => (intro w0 hSw; (try dsimp only at hSw); go_simp <;> (try (with_reducible rfl)))
            (try simp only [Act.put, List.setIfInBounds_toArray, List.set_cons_zero, List.set_cons_succ])
            refine take_mk (i := 6) (v := ?v13) rfl (by kernel_rfl) (by kernel_rfl) (by kernel_rfl) (fun _ _ _ h => h) (Or.inl ⟨by rfl, ?hy13⟩) (by assumption) ?rest13
            case hy13 => (intro w0 hSw; (try dsimp only at hSw); go_simp <;> (try (with_reducible rfl)))
            (try simp only [Act.put, List.setIfInBounds_toArray, List.set_cons_zero, List.set_cons_succ])
            refine take_mk (i := 7) (v := ?v14) rfl (by kernel_rfl) (by kernel_rfl) (by kernel_rfl) (fun _ _ _ h => h) (Or.inl ⟨by rfl, ?hy14⟩) (by assumption) ?rest14
            case hy14 => (intro w0 hSw; (try dsimp only at hSw); go_simp <;> (try (with_reducible rfl)))
            (try simp only [Act.put, List.setIfInBounds_toArray, List.set_cons_zero, List.set_cons_succ])
            refine take_mk (i := 8) (v := ?v15) rfl (by kernel_rfl) (by kernel_rfl) (by kernel_rfl) (fun _ _ _ h => h) (Or.inl ⟨by rfl, ?hy15⟩) (by assumption) ?rest15
            case hy15 => (intro w0 hSw; (try dsimp only at hSw); go_simp <;> (try (with_reducible rfl)))
            (try simp only [Act.put, List.setIfInBounds_toArray, List.set_cons_zero, List.set_cons_succ])
            refine take_mk (i := 9) (v := ?v16) rfl (by kernel_rfl) (by kernel_rfl) (by kernel_rfl) (fun _ _ _ h => h) (Or.inl ⟨by rfl, ?hy16⟩) (by assumption) ?rest16
            case hy16 => (intro w0 hSw; (try dsimp only at hSw); go_simp <;> (try (with_reducible rfl)))
            (try simp only [Act.put, List.setIfInBounds_toArray, List.set_cons_zero, List.set_cons_succ])
            refine take_mk (i := 10) (v := ?v17) rfl (by kernel_rfl) (by kernel_rfl) (by kernel_rfl) (fun _ _ _ h => h) (Or.inl ⟨by rfl, ?hy17⟩) (by assumption) ?rest17
            case hy17 => (intro w0 hSw; (try dsimp only at hSw); go_simp <;> (try (with_reducible rfl)))
            (try simp only [Act.put, List.setIfInBounds_toArray, List.set_cons_zero, List.set_cons_succ])
            refine take_mk (i := 12) (v := ?v18) rfl (by kernel_rfl) (by kernel_rfl) (by kernel_rfl) (fun _ _ _ h => h) (Or.inl ⟨by rfl, ?hy18⟩) (by assumption) ?rest18
            case hy18 => (intro w0 hSw; (try dsimp only at hSw); go_simp <;> (try (with_reducible rfl)))
            (try simp only [Act.put, List.setIfInBounds_toArray, List.set_cons_zero, List.set_cons_succ])
            refine take_mk (i := 13) (v := ?v19) rfl (by kernel_rfl) (by kernel_rfl) (by kernel_rfl) (fun _ _ _ h => h) (Or.inl ⟨by rfl, ?hy19⟩) (by assumption) ?rest19
            case hy19 => (intro w0 hSw; (try dsimp only at hSw); go_simp <;> (try (with_reducible rfl)))
            (try simp only [Act.put, List.setIfInBounds_toArray, List.set_cons_zero, List.set_cons_succ])
            refine take_mk (i := 14) (v := ?v20) rfl (by kernel_rfl) (by kernel_rfl) (by kernel_rfl) (fun _ _ _ h => h) (Or.inl ⟨by rfl, ?hy20⟩) (by assumption) ?rest20
            case hy20 => (intro w0 hSw; (try dsimp only at hSw); go_simp <;> (try (with_reducible rfl)))
            (try simp only [Act.put, List.setIfInBounds_toArray, List.set_cons_zero, List.set_cons_succ])
            refine take_mk (i := 15) (v := ?v21) rfl (by kernel_rfl) (by kernel_rfl) (by kernel_rfl) (fun _ _ _ h => h) (Or.inl ⟨by rfl, ?hy21⟩) (by assumption) ?rest21
            case hy21 => (intro w0 hSw; (try dsimp only at hSw); go_simp <;> (try (with_reducible rfl)))
            (try simp only [Act.put, List.setIfInBounds_toArray, List.set_cons_zero, List.set_cons_succ])
            refine take_mk (i := 16) (v := ?v22) rfl (by kernel_rfl) (by kernel_rfl) (by kernel_rfl) (fun _ _ _ h => h) (Or.inl ⟨by rfl, ?hy22⟩) (by assumption) ?rest22
            case hy22 => (intro w0 hSw; (try dsimp only at hSw); go_simp <;> (try (with_reducible rfl)))
            (try simp only [Act.put, List.setIfInBounds_toArray, List.set_cons_zero, List.set_cons_succ])
            refine wpAnyH_ready (rs := [11, 17]) (by kernel_rfl) (by simp) ?_
            refine cons_mk rfl (fun K hK => ?_) (cons_mk rfl (fun K hK => ?_) AllReadyH.nil)
            · go_simp
              refine hK.out _ _ (by exact HKS0.out) (fun hHeld => ?_)
              clear hK K
              (try simp only [Act.put, List.setIfInBounds_toArray, List.set_cons_zero, List.set_cons_succ])
              refine wpAnyH_ready (rs := [17]) (by kernel_rfl) (by simp) ?_
              refine cons_mk rfl (fun K hK => ?_) AllReadyH.nil
              refine step_call2 9 ent_picked (by rfl) _ _ _ (by rfl) (.int .i64 (u.tdiv 49)) (.int .i64 60) (by rfl) (by rfl) _ (HK3.out _) ?_
              rintro e w7 ⟨rfl, rfl⟩
              refine ⟨_, rfl, ?_⟩
              refine hK.out _ _ (by exact HKS0.out) (fun hHeld => ?_)
              clear hK K
              (try simp only [Act.put, List.setIfInBounds_toArray, List.set_cons_zero, List.set_cons_succ])
              refine take_mk (i := 18) (v := ?v1) rfl (by kernel_rfl) (by kernel_rfl) (by kernel_rfl) (fun _ _ _ h => h) (Or.inl ⟨by rfl, ?hy1⟩) (by assumption) ?rest1
              case hy1 => (intro w0 hSw; (try dsimp only at hSw); go_simp <;> (try (with_reducible rfl)))
              (try simp only [Act.put, List.setIfInBounds_toArray, List.set_cons_zero, List.set_cons_succ])
              refine take_mk (i := 19) (v := ?v2) rfl (by kernel_rfl) (by kernel_rfl) (by kernel_rfl) (fun _ _ _ h => h) (Or.inl ⟨by rfl, ?hy2⟩) (by assumption) ?rest2
              case hy2 => (intro w0 hSw; (try dsimp only at hSw); go_simp <;> (try (with_reducible rfl)))
              (try simp only [Act.put, List.setIfInBounds_toArray, List.set_cons_zero, List.set_cons_succ])
              refine take_mk (i := 20) (v := ?v3) rfl (by kernel_rfl) (by kernel_rfl) (by kernel_rfl) (fun _ _ _ h => h) (Or.inl ⟨by rfl, ?hy3⟩) (by assumption) ?rest3
              case hy3 => (intro w0 hSw; (try dsimp only at hSw); go_simp <;> (try (with_reducible rfl)))
              (try simp only [Act.put, List.setIfInBounds_toArray, List.set_cons_zero, List.set_cons_succ])
              refine wpAnyH_ready (rs := [21]) (by kernel_rfl) (by simp) ?_
              refine cons_mk rfl (fun K hK => ?_) AllReadyH.nil
              go_simp
              all_goals
                refine hK.out _ _ (by exact HKS.out _) (fun hHeld => ?_)
                clear hK K
                (try simp only [Act.put, List.setIfInBounds_toArray, List.set_cons_zero, List.set_cons_succ])
                refine wpAnyH_done (by kernel_rfl) ?_ _
                go_wp2_with fail
                all_goals
                  go_roundg (21 - (i + 1))
                  case rel => exact ⟨i + 1, _, by omega, rfl, by go_num, HST.out _, HRU.out _ (by have := HBB.out; have := HQQ.out; first | omega | (split <;> omega)) (by have := HBB.out; have := HQQ.out; first | omega | (split <;> omega)), HSE.out _⟩
                  case measure => omega
            · refine step_call2 9 ent_picked (by rfl) _ _ _ (by rfl) (.int .i64 (u.tdiv 49)) (.int .i64 60) (by rfl) (by rfl) _ (HK3.out _) ?_
              rintro e w7 ⟨rfl, rfl⟩
              refine ⟨_, rfl, ?_⟩
              refine hK.out _ _ (by exact HKS0.out) (fun hHeld => ?_)
              clear hK K
              (try simp only [Act.put, List.setIfInBounds_toArray, List.set_cons_zero, List.set_cons_succ])
              refine take_mk (i := 18) (v := ?v4) rfl (by kernel_rfl) (by kernel_rfl) (by kernel_rfl) (fun _ _ _ h => h) (Or.inl ⟨by rfl, ?hy4⟩) (by assumption) ?rest4
              case hy4 => (intro w0 hSw; (try dsimp only at hSw); go_simp <;> (try (with_reducible rfl)))
              (try simp only [Act.put, List.setIfInBounds_toArray, List.set_cons_zero, List.set_cons_succ])
              refine wpAnyH_ready (rs := [11]) (by kernel_rfl) (by simp) ?_
              refine cons_mk rfl (fun K hK => ?_) AllReadyH.nil
              go_simp
              refine hK.out _ _ (by exact HKS0.out) (fun hHeld => ?_)
              clear hK K
              (try simp only [Act.put, List.setIfInBounds_toArray, List.set_cons_zero, List.set_cons_succ])
              refine take_mk (i := 19) (v := ?v5) rfl (by kernel_rfl) (by kernel_rfl) (by kernel_rfl) (fun _ _ _ h => h) (Or.inl ⟨by rfl, ?hy5⟩) (by assumption) ?rest5
              case hy5 => (intro w0 hSw; (try dsimp only at hSw); go_simp <;> (try (with_reducible rfl)))
              (try simp only [Act.put, List.setIfInBounds_toArray, List.set_cons_zero, List.set_cons_succ])
              refine take_mk (i := 20) (v := ?v6) rfl (by kernel_rfl) (by kernel_rfl) (by kernel_rfl) (fun _ _ _ h => h) (Or.inl ⟨by rfl, ?hy6⟩) (by assumption) ?rest6
              case hy6 => (intro w0 hSw; (try dsimp only at hSw); go_simp <;> (try (with_reducible rfl)))
              (try simp only [Act.put, List.setIfInBounds_toArray, List.set_cons_zero, List.set_cons_succ])
              refine wpAnyH_ready (rs := [21]) (by kernel_rfl) (by simp) ?_
              refine cons_mk rfl (fun K hK => ?_) AllReadyH.nil
              go_simp
              all_goals
                refine hK.out _ _ (by exact HKS.out _) (fun hHeld => ?_)
                clear hK K
                (try simp only [Act.put, List.setIfInBounds_toArray, List.set_cons_zero, List.set_cons_succ])
                refine wpAnyH_done (by kernel_rfl) ?_ _
                go_wp2_with fail
                all_goals
                  go_roundg (21 - (i + 1))
                  case rel => exact ⟨i + 1, _, by omega, rfl, by go_num, HST.out _, HRU.out _ (by have := HBB.out; have := HQQ.out; first | omega | (split <;> omega)) (by have := HBB.out; have := HQQ.out; first | omega | (split <;> omega)), HSE.out _⟩
                  case measure => omega
        · have n3 : ¬ (0 : Int) < (n : Int) := by omega
          clear hBr
          go_wp2_with fail
          go_ret
          exact ⟨⟨_, rfl, Q, ⟨p3, cap3, b3, G, C, rfl, HP3.out, HC.out.1, HC.out.2, HO1.out⟩, HQ1.out⟩, HBR.out⟩
      · have i4 : ¬ (i : Int) < 20 := by omega
        clear hBr
        go_wp2_with fail
        go_ret
        exact ⟨⟨_, rfl, Q, ⟨p3, cap3, b3, G, C, rfl, HP3.out, HC.out.1, HC.out.2, HO1.out⟩, HQ1.out⟩, HBR.out⟩
    · have i2 : ¬ (i : Int) < (l : Int) := by omega
      clear hBr
      go_wp2_with fail
      go_ret
      exact ⟨⟨_, rfl, Q, ⟨p3, cap3, b3, G, C, rfl, HP3.out, HC.out.1, HC.out.2, HO1.out⟩, HQ1.out⟩, HBR.out⟩
end Go.Proofs.Ytgikaheojcpmpab
