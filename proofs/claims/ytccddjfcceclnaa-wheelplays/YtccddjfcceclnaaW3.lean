/-
  The walk of the law WheelSteps.
-/
import Derived.Test.YtccddjfcceclnaaWs
namespace Go.Proofs.Ytccddjfcceclnaa
open Go.ChangeShapes Go.WideShapes Go.ChangeAt Go.RowKit
set_option linter.unusedVariables false
set_option linter.unusedSimpArgs false
theorem okd_wf {n m : Nat} {ds : List Dd} (h : Okd n ds m) (hm : m ≤ 1099511627776) : ∀ d, d ∈ ds → wfI d.2.1 ∧ wfI d.2.2 := by
  induction ds generalizing n with
  | nil => intro d hd; cases hd
  | cons x r ih =>
    obtain ⟨k, h1, h2⟩ := h
    have := h2.le
    intro d hd
    rcases List.mem_cons.1 hd with rfl | hd
    · unfold Step1 at h1; unfold wfI; omega
    · exact ih h2 d hd
/-- Two appends, the first onto nil: other rows stay. -/
theorem app2_kept {wr w2 w3 : World} {B k : Nat} {x v1 : Value} {zs : List Value} {o : Obj} {e : TypeId} {sz : Nat} (h : wr.ownsRow B e sz x k zs) (g1 : wr.grownBy w2 none) (a1 : v1.ownBlock = none ∨ v1.ownBlock = some wr.heap.size) (g2 : (w2.alloc o).grownBy w3 v1.ownBlock) :
    w3.ownsRow B e sz x k zs := by
  have h2 : w2.ownsRow B e sz x k zs := h.kept g1 (by cases x.ownBlock <;> simp)
  refine (h2.alloc o).kept g2 ?_
  cases hx : x.ownBlock with
  | none => exact Or.inl rfl
  | some b =>
    right
    have := (h.lt b hx).2
    rcases a1 with a1 | a1
    · rw [a1]; simp
    · rw [a1]; simp; omega
theorem app2_below {w wr w2 w3 : World} {v1 : Value} {o : Obj} (b : Below w.heap.size w wr) (g1 : wr.grownBy w2 none) (a1 : v1.ownBlock = none ∨ v1.ownBlock = some wr.heap.size) (g2 : (w2.alloc o).grownBy w3 v1.ownBlock) : Below w.heap.size w w3 := by
  have hs := b.size
  have h2 : Below w.heap.size w w2 := b.grown g1 hs (fun k hk => by cases hk)
  have hs2 := h2.size
  refine (h2.alloc hs2 o).grown g2 (by simp; omega) (fun k hk => ?_)
  rcases a1 with a1 | a1
  · rw [a1] at hk; cases hk
  · rw [a1] at hk; cases hk; exact hs
set_option maxHeartbeats 8000000 in
theorem wheelSteps_walk (f a b : Int) (v : Value) (al : List Dd) (w : World) (hf : wfI f) (ha : wfI a) (hb : wfI b) (hv : Trips w v al) (hwf : ∀ x, x ∈ al → wfD x) :
    Calls Try.prog 5 #[.int .i64 f, v, .int .i64 a, .int .i64 b] w fun e w' => e = .returned (.bool true) ∧ Below w.heap.size w w' := by
  obtain ⟨n0, hn0, hp0⟩ := picked_const f 549755813888 549755813888 rfl hf (by omega) (by omega)
  obtain ⟨xa, hxa, hpa⟩ := picked_const a 4000 4000 rfl ha (by omega) (by omega)
  obtain ⟨xb, hxb, hpb⟩ := picked_const b 4000 4000 rfl hb (by omega) (by omega)
  have P0 : Hid (∀ W, Calls Try.prog 13 #[.int .i64 f, .int .i64 549755813888] W fun e w' => e = .returned (.int .i64 n0) ∧ w' = W) := hp0
  have PA : Hid (∀ W, Calls Try.prog 13 #[.int .i64 a, .int .i64 4000] W fun e w' => e = .returned (.int .i64 xa) ∧ w' = W) := hpa
  have PB : Hid (∀ W, Calls Try.prog 13 #[.int .i64 b, .int .i64 4000] W fun e w' => e = .returned (.int .i64 xb) ∧ w' = W) := hpb
  have HV : Hid (Trips w v al ∧ ∀ x, x ∈ al → wfD x) := ⟨hv, hwf⟩
  clear hp0 hpa hpb hv hwf hf ha hb
  go_enter Try.func5, Try.ntmps5
  go_wp2_with (go_at_call 13; refine (P0.out _).mono ?_; rintro e w ⟨rfl, rfl⟩)
  refine (deeds_any n0 v al _ HV.out.1 HV.out.2 (by omega)).mono ?_
  rintro e w1 ⟨u, ds, m, rfl, hrow, hok, hl, hm, hB⟩
  obtain ⟨pu, cu, rfl, hpu⟩ : ∃ p cap, u = .slice p ds.length cap ∧ (0 < ds.length → ∃ g, p = some ⟨g, 0, none⟩) := by
    rcases hrow.2 with ⟨h1, h0⟩ | ⟨g, cap, cur, h1, _⟩
    · exact ⟨none, 0, by rw [h0]; exact h1, fun h => by omega⟩
    · exact ⟨_, cap, h1, fun _ => ⟨g, rfl⟩⟩
  obtain ⟨n, hnl⟩ : ∃ n, ds.length = n := ⟨_, rfl⟩
  rw [hnl] at hrow
  have HROW : Hid (w1.ownsRow w.heap.size 36 3 (.slice pu n cu) n (ds.flatMap encD)) := hrow
  have HDS : Hid (ds.length = n ∧ Okd n0 ds m ∧ m ≤ n0 + 900 * n ∧ (0 < n → ∃ g, pu = some ⟨g, 0, none⟩)) := ⟨hnl, hok, by rw [← hnl]; exact hm, by rw [← hnl]; exact hpu⟩
  have HB : Hid (Below w.heap.size w w1) := hB
  have hn60 : n ≤ 60 := by omega
  rw [hnl]
  clear hrow hok hl hm hB hpu hnl
  go_wp2_with fail
  go_loopw [9, 11] (fun t i wr => ∃ k mk : Nat, k ≤ n ∧ i = .int .i64 (k : Nat) ∧ t = .int .i64 (mk : Nat) ∧ Okd n0 (ds.take k) mk ∧ wr = w1) (fun _ i _ => n + 1 - (intOf i).toNat)
  case atStart => exact ⟨0, n0, by omega, rfl, rfl, rfl, rfl⟩
  case round =>
    obtain ⟨k, mk, hk, rfl, rfl, hok, rfl⟩ := hrel
    by_cases hlt : k < n
    · obtain ⟨hdl, hokd, _, hpu⟩ := HDS.out
      have hkd : k < ds.length := by omega
      obtain ⟨g, hg⟩ := hpu (by omega)
      subst hg
      obtain ⟨x1, x2, r1, r2, r3⟩ := hokd.take k hkd
      obtain rfl : x1 = mk := r1.one hok
      have hcl : ∀ i u, (ds.flatMap encD)[i]? = some u → wr.cell? ⟨g, i, none⟩ = some u := fun i u hu => by
        have := HROW.out.cells rfl i u hu
        rw [Addr.add_mid, Nat.zero_add] at this
        exact this
      obtain ⟨q0, q1, q2⟩ := flatD_at ds k hkd
      have c0 := hcl _ _ q0
      have c2 := hcl _ _ q2
      obtain ⟨d, hdk⟩ : ∃ d, ds[k] = d := ⟨_, rfl⟩
      rw [hdk] at c0 c2 r2
      have HR : Hid (Step1 x1 d x2 ∧ Okd n0 (ds.take (k + 1)) x2) := ⟨r2, r3⟩
      have i1 : (0 : Int) ≤ (k : Int) := by omega
      have i2 : (k : Int) < (n : Int) := by omega
      have hkind : d.1 = 3 ∧ d.2.2 = x2 ∨ d.1 ≠ 3 ∧ x2 = x1 := by
        unfold Step1 at r2; omega
      clear hcl q0 q1 q2 r1 r2 r3 hok hokd hpu hkd hdk hdl
      rcases hkind with ⟨h1, h2⟩ | ⟨h1, rfl⟩
      · rw [h1] at c0
        rw [h2] at c2
        go_wp2
        go_roundw
        case rel => exact ⟨k + 1, x2, by omega, by go_num, rfl, HR.out.2, trivial⟩
        case measure => simp [intOf]; omega
      · have h1' : (d.1 == 3) = false := by simpa using h1
        go_wp2
        go_roundw
        case rel => exact ⟨k + 1, x2, by omega, by go_num, rfl, HR.out.2, trivial⟩
        case measure => simp [intOf]; omega
    · obtain rfl : k = n := by omega
      obtain ⟨hdl, hokd, hm, hpu⟩ := HDS.out
      rw [← hdl, List.take_length] at hok
      obtain rfl : mk = m := hok.one hokd
      have hm9 : mk ≤ n0 + 54000 := by omega
      have HOK : Hid (Okd n0 ds mk ∧ ds.length = k) := ⟨hokd, hdl⟩
      have hge := hokd.le
      clear hok hokd hm hpu HDS hdl hlt hk
      have hx1 : mk + xa ≤ 1099511627776 := by omega
      go_wp2_with (first
        | (go_at_call_of 13 (Value.int IntKind.i64 f); refine (P0.out _).mono ?_; rintro e wz ⟨rfl, rfl⟩)
        | (go_at_call_of 13 (Value.int IntKind.i64 a); refine (PA.out _).mono ?_; rintro e wr ⟨rfl, rfl⟩)
        | (go_at_call_of 13 (Value.int IntKind.i64 b); refine (PB.out _).mono ?_; rintro e wr ⟨rfl, rfl⟩)
        | (at_builtin; refine wpList_append_deeds _ (by rfl) _ _ (by rfl) w.heap.size w4.heap.size v3 (.slice (some ⟨w4.heap.size, 0, none⟩) 2 2) _ 2 _ [(3, 0, (mk : Int) + xa), (3, 0, (mk : Int) + xa + xb)] (by rfl) (by rfl) (hown3.alloc _) (row_new w4 [(3, 0, (mk : Int) + xa), (3, 0, (mk : Int) + xa + xb)] _ rfl (by simp)) (by omega) (by simp; have := B5.out; omega) ?_; intro v4 w5 hown4 hg4 hat4)
        | (at_builtin; refine wpList_append_deeds _ (by rfl) _ _ (by rfl) w.heap.size w.heap.size (.slice none 0 0) (.slice pu k cu) 0 k [] ds (by rfl) (by rfl) (World.ownsRow_nil _ _ _ _) ROW3.out (by omega) (by have := B3.out.size; omega) ?_; intro v3 w4 hown3 hg3 hat3; have B5 : Hid (w.heap.size ≤ w4.heap.size) := (by show _ ≤ _; have := B3.out.size; have := hg3.size; omega))
        | (at_builtin; refine wpList_append_deeds _ (by rfl) _ _ (by rfl) w.heap.size w2.heap.size v1 (.slice (some ⟨w2.heap.size, 0, none⟩) 1 1) _ 1 _ [(3, 0, (mk : Int) + xa + xb)] (by rfl) (by rfl) (hown1.alloc _) (row_new w2 [(3, 0, (mk : Int) + xa + xb)] _ rfl (by simp)) (by omega) (by simp; have := B2.out; omega) ?_; intro v2 w3 hown2 hg2 hat2; have ROW3 : Hid (w3.ownsRow w.heap.size 36 3 (.slice pu k cu) k (ds.flatMap encD)) := (app2_kept HROW.out hg1 hat1 hg2); have B3 : Hid (Below w.heap.size w w3) := (app2_below HB.out hg1 hat1 hg2))
        | (at_builtin; refine wpList_append_deeds _ (by rfl) _ _ (by rfl) w.heap.size w.heap.size (.slice none 0 0) (.slice pu k cu) 0 k [] ds (by rfl) (by rfl) (World.ownsRow_nil _ _ _ _) HROW.out (by omega) HB.out.size ?_; intro v1 w2 hown1 hg1 hat1; have B2 : Hid (w.heap.size ≤ w2.heap.size) := (by show _ ≤ _; have := HB.out.size; have := hg1.size; omega)))
      have B5' : Below w.heap.size w wz := app2_below B3.out hg3 hat3 hg4
      have R2 := app2_kept hown2 hg3 hat3 hg4
      have hkl := HOK.out.2
      have R2' : wz.ownsRow w.heap.size 36 3 v2 (ds ++ [(3, 0, (mk : Int) + xa + xb)]).length ((ds ++ [(3, 0, (mk : Int) + xa + xb)]).flatMap encD) := by
        have e1 : (ds ++ [(3, 0, (mk : Int) + xa + xb)]).length = 0 + k + 1 := by simp; exact hkl
        rw [e1]; simpa using R2
      have R4' : wz.ownsRow w.heap.size 36 3 v4 (ds ++ [(3, 0, (mk : Int) + xa), (3, 0, (mk : Int) + xa + xb)]).length ((ds ++ [(3, 0, (mk : Int) + xa), (3, 0, (mk : Int) + xa + xb)]).flatMap encD) := by
        have e1 : (ds ++ [(3, 0, (mk : Int) + xa), (3, 0, (mk : Int) + xa + xb)]).length = 0 + k + 2 := by simp; exact hkl
        rw [e1]; simpa using hown4
      obtain ⟨y1, hy1⟩ : ∃ y1 : Nat, y1 = mk + xa := ⟨_, rfl⟩
      obtain ⟨y2, hy2⟩ : ∃ y2 : Nat, y2 = mk + xa + xb := ⟨_, rfl⟩
      have hy1' : (mk : Int) + xa = (y1 : Int) := by omega
      have hy2' : (y1 : Int) + xb = (y2 : Int) := by omega
      rw [hy1', hy2'] at R2' R4'
      have hmt : mk ≤ mt := by unfold mt; omega
      have hA : (after ⟨n0, 0, []⟩ ds).now = mk := after_now (s := ⟨n0, 0, []⟩) HOK.out.1 hmt
      have hG : Good (after ⟨n0, 0, []⟩ ds) := after_good (good_none (by unfold mt; omega)) ds
      obtain ⟨r1, r2, r3, q1, q2, q3⟩ := steps_rows hG y1 y2 (by omega) (by omega) (by unfold mt; omega)
      have hr1 : rows ⟨n0, 0, []⟩ (ds ++ [(3, 0, (y2 : Int))]) = rows ⟨n0, 0, []⟩ ds ++ [r1] := by rw [rows_app, q1]
      have hr2 : rows ⟨n0, 0, []⟩ (ds ++ [(3, 0, (y1 : Int)), (3, 0, (y2 : Int))]) = rows ⟨n0, 0, []⟩ ds ++ [r2, r3] := by rw [rows_app, q2]
      have hrl : (rows ⟨n0, 0, []⟩ ds).length = k := by rw [rows_len]; exact hkl
      have hw0 := okd_wf HOK.out.1 (by omega)
      have hwf1 : ∀ d, d ∈ ds ++ [(3, 0, (y2 : Int))] → wfI d.2.1 ∧ wfI d.2.2 := fun d hd => by
        rcases List.mem_append.1 hd with h | h
        · exact hw0 d h
        · rw [List.mem_singleton.1 h]; unfold wfI; dsimp only; omega
      have hwf2 : ∀ d, d ∈ ds ++ [(3, 0, (y1 : Int)), (3, 0, (y2 : Int))] → wfI d.2.1 ∧ wfI d.2.2 := fun d hd => by
        rcases List.mem_append.1 hd with h | h
        · exact hw0 d h
        · simp at h
          rcases h with rfl | rfl <;> (unfold wfI; dsimp only; omega)
      obtain ⟨g2, cap2, e2, _⟩ := R2'.form (by simp)
      obtain ⟨g4, cap4, e4, _⟩ := R4'.form (by simp)
      have z1 : (ds ++ [((3 : Int), (0 : Int), (y2 : Int))]).length = k + 1 := by simp; exact hkl
      have z2 : (ds ++ [((3 : Int), (0 : Int), (y1 : Int)), ((3 : Int), (0 : Int), (y2 : Int))]).length = k + 2 := by simp; exact hkl
      rw [z1] at e2
      rw [z2] at e4
      subst e2 e4
      refine (play_any n0 _ (ds ++ [(3, 0, (y2 : Int))]) _ (deeds_own R2') hwf1 (by omega) (by simp; omega)).mono ?_
      rw [hr1]
      rintro e w6 ⟨tv, dv, rfl, hT, hD, hB6⟩
      have R4'' := owns_block R4' (w' := w6) (fun i hi => hB6.block i (R4'.lt i hi).2)
      have B6 : Below w.heap.size w w6 := B5'.trans (hB6.mono B5'.size)
      have HD : Hid (RowsAt w6 dv (rows ⟨n0, 0, []⟩ ds ++ [r1])) := hD
      have HB6 : Hid (Below w.heap.size w w6) := B6
      have HR4 : Hid (w6.ownsRow w.heap.size 36 3 (.slice (some ⟨g4, 0, none⟩) (k + 2) cap4) (ds ++ [(3, 0, (y1 : Int)), (3, 0, (y2 : Int))]).length ((ds ++ [(3, 0, (y1 : Int)), (3, 0, (y2 : Int))]).flatMap encD)) := R4''
      have HWF2 : Hid (∀ d, d ∈ ds ++ [(3, 0, (y1 : Int)), (3, 0, (y2 : Int))] → wfI d.2.1 ∧ wfI d.2.2) := hwf2
      have HRR : Hid (rows ⟨n0, 0, []⟩ (ds ++ [(3, 0, (y1 : Int)), (3, 0, (y2 : Int))]) = rows ⟨n0, 0, []⟩ ds ++ [r2, r3] ∧ (rows ⟨n0, 0, []⟩ ds).length = k ∧ r1 = r2 ++ r3) := ⟨hr2, hrl, q3⟩
      clear hT hD hB6 R4'' R4' R2' R2 B5' B6 hw0 hwf1 hwf2 hr1 hr2 q1 q2 q3 hG hA hown1 hown2 hown3 hown4 hg1 hg2 hg3 hg4 hat1 hat2 hat3 hat4 ROW3 B3 B5 B2 HROW HB hrl hy1 hy2 hy1' hy2' hmt z1 z2
      go_wp2_with (first
        | (go_at_call_of 13 (Value.int IntKind.i64 f); refine (P0.out _).mono ?_; rintro e w6 ⟨rfl, rfl⟩))
      refine (play_any n0 _ _ _ (deeds_own HR4.out) HWF2.out (by omega) (by simp; omega)).mono ?_
      rw [HRR.out.1]
      rintro e w7 ⟨tv2, dv2, rfl, hT2, hD2, hB7⟩
      have hD1 := HD.out.below hB7
      obtain ⟨b1, c1, us1, rfl, hb1, hu1⟩ := hD1.form (by simp)
      obtain ⟨b2, c2, us2, rfl, hb2, hu2⟩ := hD2.form (by simp)
      obtain ⟨_, hrl, hq3⟩ := HRR.out
      have t1 := hu1 k (by simp; omega)
      have t2 := hu2 k (by simp; omega)
      have t3 := hu2 (k + 1) (by simp; omega)
      have g1 : (rows ⟨n0, 0, []⟩ ds ++ [r1])[k]'(by simp; omega) = r1 := by rw [List.getElem_append_right (by omega)]; simp [hrl]
      have g2 : (rows ⟨n0, 0, []⟩ ds ++ [r2, r3])[k]'(by simp; omega) = r2 := by rw [List.getElem_append_right (by omega)]; simp [hrl]
      have g3 : (rows ⟨n0, 0, []⟩ ds ++ [r2, r3])[k + 1]'(by simp; omega) = r3 := by rw [List.getElem_append_right (by omega)]; simp [hrl]
      rw [g1] at t1
      rw [g2] at t2
      rw [g3] at t3
      have z3 : (rows ⟨n0, 0, []⟩ ds ++ [r1]).length = k + 1 := by simp; exact hrl
      have z4 : (rows ⟨n0, 0, []⟩ ds ++ [r2, r3]).length = k + 2 := by simp; exact hrl
      rw [z3, z4]
      clear z3 z4
      obtain ⟨x1, hx1'⟩ : ∃ x1, us1 k = x1 := ⟨_, rfl⟩
      obtain ⟨x2, hx2'⟩ : ∃ x2, us2 k = x2 := ⟨_, rfl⟩
      obtain ⟨x3, hx3'⟩ : ∃ x3, us2 (k + 1) = x3 := ⟨_, rfl⟩
      rw [hx1'] at t1
      rw [hx2'] at t2
      rw [hx3'] at t3
      obtain ⟨m1, l1, n1⟩ := t1
      obtain ⟨m2, l2, n2⟩ := t2
      obtain ⟨m3, l3, n3⟩ := t3
      have HL1 : Hid (ListAt w7 x1 r1 ∧ ListAt w7 x2 r2 ∧ ListAt w7 x3 r3 ∧ r1.length ≤ 1000 ∧ r2.length ≤ 1000 ∧ r3.length ≤ 1000 ∧ r1 = r2 ++ r3) := ⟨l1, l2, l3, n1, n2, n3, hq3⟩
      have KS : Hid (∀ W, Below w7.heap.size w7 W → W.cell? ⟨b1, k, none⟩ = some x1 ∧ W.cell? ⟨b2, k, none⟩ = some x2 ∧ W.cell? ⟨b2, k + 1, none⟩ = some x3) := fun W hW =>
        ⟨(hW.cell (p := ⟨b1, k, none⟩) hb1).trans m1, (hW.cell (p := ⟨b2, k, none⟩) hb2).trans m2, (hW.cell (p := ⟨b2, k + 1, none⟩) hb2).trans m3⟩
      have HB7 : Hid (Below w.heap.size w w7) := HB6.out.trans (hB7.mono HB6.out.size)
      have i1 : (0 : Int) ≤ (k : Int) := by omega
      have i2 : (k : Int) ≤ 60 := by omega
      have i3 : (0 : Int) ≤ (k : Int) + 1 := by omega
      have i4 : (k : Int) + 1 < (k : Int) + 2 := by omega
      have i5 : (k : Int) < (k : Int) + 2 := by omega
      have i6 : (k : Int) < (k : Int) + 1 := by omega
      have i7 : IntKind.i64.wrap ((k : Int) + 1) = (k : Int) + 1 := by simp [IntKind.wrap, IntKind.bits, IntKind.signed]; omega
      clear hD1 hu1 hu2 hrl hq3 g1 g2 g3 hx1' hx2' hx3' l1 l2 l3 n1 n2 n3 hT2 hD2 hB7 HD HRR HR4 HWF2 HB6 hb1 hb2
      go_wp2_with fail
      go_region_held3 (fun W => W.cell? ⟨b1, k, none⟩ = some x1 ∧ W.cell? ⟨b2, k, none⟩ = some x2 ∧ W.cell? ⟨b2, k + 1, none⟩ = some x3)
        (first | (exact KS.out _ (below_drewN bB _)) | (exact KS.out _ bB) | (exact KS.out _ bA) | (go_keep; done))
        (first
          | (refine step_append_ints _ (by rfl) _ _ (by rfl) w7.heap.size xA x3 _ r3 (by rfl) (by rfl) hownA (HL1.out.2.2.1.below bA) (by have := HL1.out; simp; omega) bA.size ?_; intro xB wB hownB hgB; have bB : Below w7.heap.size w7 wB := bA.grown hgB bA.size (fun j hj => (hownA.lt j hj).1))
          | (refine step_append_ints _ (by rfl) _ _ (by rfl) w7.heap.size (.slice none 0 0) x2 [] r2 (by rfl) (by rfl) (by simpa using World.ownsRow_nil _ w7.heap.size 3 1) (HL1.out.2.1.below (Below.refl _ _).drew) (by have := HL1.out; simp; omega) (by simp) ?_; intro xA wA hownA hgA; have bA : Below w7.heap.size w7 wA := (Below.refl _ _).drew.grown hgA (by simp) (fun j hj => by cases hj))
          | (go_at_call 15; refine (sameInts_any _ _ r1 _ _ (HL1.out.1.below bB) (list_own hownB) (by have := HL1.out; omega) (by have := HL1.out; simp; omega)).mono ?_; rintro e wC ⟨rfl, qq, rfl⟩))
      go_wp2
      go_ret
      refine ⟨?_, below_drewN (HB7.out.trans (bB.mono HB7.out.size)) _⟩
      have e := HL1.out.2.2.2.2.2.2
      simp [e]
end Go.Proofs.Ytccddjfcceclnaa
