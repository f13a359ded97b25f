/-
  Takes, by the program.
-/
import Derived.Test.YtnajcoikcoegoaaDoorXe
namespace Go.Proofs.YtnajcoikcoegoaaDoor.Chk
open Go.ChangeShapes Go.WideShapes Go.ChangeAt Go.RowKit Go.Maps
set_option linter.unusedVariables false
set_option linter.unusedSimpArgs false
set_option maxRecDepth 20000
def r0 : Rl := ⟨txt [], [], [], [], [], ⟨txt [], []⟩⟩
def p0 : Pt := ⟨txt [], txt [], cn0, 0, 0⟩
/-- What Takes tells. -/
def tkr (ts : List Tp) (rs : List Rl) (rule part at_ : Int) (x : Ev) (kn : List Ev) : Bool × Int :=
  if bok ts rs ≠ 0 then (false, bok ts rs)
  else if ¬ (0 ≤ rule ∧ rule < (rs.length : Int)) then (false, 2)
  else if ¬ (0 ≤ at_ ∧ at_ < ((prt part (rs.getD rule.toNat r0)).length : Int)) then (false, 2)
  else if evk ts x ≠ 0 then (false, evk ts x)
  else if efs ts kn ≠ 0 then (false, efs ts kn)
  else if knk ts (asq part at_.toNat (rs.getD rule.toNat r0).w) kn ≠ 0 then (false, knk ts (asq part at_.toNat (rs.getD rule.toNat r0).w) kn)
  else (tkb ts (asq part at_.toNat (rs.getD rule.toNat r0).w) x kn ((prt part (rs.getD rule.toNat r0)).getD at_.toNat p0), 0)
theorem wfs_pok {ts : List Tp} : ∀ (l done : List Pt), wfs 0 ts done l = 0 → ∀ k (hk : k < l.length), Pok ts (done ++ l.take k) l[k]
  | [], _, _, k, hk => by simp at hk
  | y :: r, done, h, k, hk => by
    rw [wfs] at h
    split at h
    · rename_i c; exact absurd h c
    · rename_i c
      cases k with
      | zero => simpa using pck_pok (Classical.byContradiction c)
      | succ k =>
        have := wfs_pok r (done ++ [y]) h k (by simpa using hk)
        simpa using this
theorem nfs_pok {ts : List Tp} {ws : List Pt} : ∀ (l : List Pt) (ah : List ByteArray), nfs 0 ts ws ah l = 0 → ∀ p, p ∈ l → Pok ts ws p
  | [], ah, _, p, hp => by cases hp
  | y :: r, ah, h, p, hp => by
    rw [nfs] at h
    split at h
    · rename_i c; exact absurd h c
    · rename_i c
      rcases List.mem_cons.1 hp with rfl | hp
      · exact pck_pok (Classical.byContradiction c)
      · exact nfs_pok r _ h p hp
theorem mfs_pok {ts : List Tp} {ws : List Pt} : ∀ (l : List Mn) (ah : List ByteArray), mfs 0 ts ws ah l = 0 → ∀ m, m ∈ l → Pok ts ws m.p
  | [], ah, _, p, hp => by cases hp
  | y :: r, ah, h, p, hp => by
    rw [mfs] at h
    split at h
    · rename_i c; exact absurd h c
    · rename_i c
      rcases List.mem_cons.1 hp with rfl | hp
      · have h0 : mck ts ws ah p = 0 := Classical.byContradiction c
        unfold mck at h0
        split at h0
        · omega
        · split at h0
          · rename_i d; exact absurd h0 d
          · rename_i d; exact pck_pok (Classical.byContradiction d)
      · exact mfs_pok r _ h p hp
/-- A pattern of a rule that may be, may be among the whens that it is given. -/
theorem rck_pok {ts : List Tp} {r : Rl} (h : rck ts r = 0) {part : Int} {k : Nat} (hk : k < (prt part r).length) : Pok ts (asq part k r.w) (prt part r)[k] := by
  obtain ⟨_, hsz⟩ := rck_ok h
  have hf : frn r.n = 0 := by
    refine Classical.byContradiction fun c => ?_
    unfold rck at h
    rw [if_pos c] at h
    exact c h
  rw [rck_parts ts r hf hsz] at h
  split at h
  · rename_i c; exact absurd h c
  · rename_i c1
    split at h
    · rename_i c; exact absurd h c
    · rename_i c2
      split at h
      · rename_i c; exact absurd h c
      · rename_i c3
        have a1 := wfs_pok r.w [] (Classical.byContradiction c1)
        have a2 := nfs_pok r.t (r.w.map Pt.va) (Classical.byContradiction c2)
        have a3 := mfs_pok r.m (r.w.map Pt.va ++ r.t.map Pt.va) (Classical.byContradiction c3)
        unfold asq
        by_cases p0 : part = 0
        · have e : prt part r = r.w := by unfold prt; rw [if_pos p0]
          rw [if_pos p0]
          simp only [e] at hk ⊢
          simpa using a1 k hk
        · rw [if_neg p0]
          by_cases p1 : part = 1
          · have e : prt part r = r.t := by unfold prt; rw [if_neg p0, if_pos p1]
            simp only [e] at hk ⊢
            exact a2 _ (List.getElem_mem hk)
          · by_cases p2 : part = 2
            · have e : prt part r = r.m.map Mn.p := by unfold prt; rw [if_neg p0, if_neg p1, if_pos p2]
              simp only [e] at hk ⊢
              rw [List.getElem_map]
              exact a3 _ (List.getElem_mem (by simpa using hk))
            · have e : prt part r = [] := by unfold prt; rw [if_neg p0, if_neg p1, if_neg p2]
              rw [e] at hk
              simp at hk
theorem szr_prt {r : Rl} (h : Szr r) {part : Int} {k : Nat} (hk : k < (prt part r).length) : Wsz (prt part r)[k].c := by
  by_cases p0 : part = 0
  · have e : prt part r = r.w := by unfold prt; rw [if_pos p0]
    simp only [e] at hk ⊢
    exact h.w _ (List.getElem_mem hk)
  · by_cases p1 : part = 1
    · have e : prt part r = r.t := by unfold prt; rw [if_neg p0, if_pos p1]
      simp only [e] at hk ⊢
      exact h.t _ (List.getElem_mem hk)
    · by_cases p2 : part = 2
      · have e : prt part r = r.m.map Mn.p := by unfold prt; rw [if_neg p0, if_neg p1, if_pos p2]
        simp only [e] at hk ⊢
        rw [List.getElem_map]
        exact h.m _ (List.getElem_mem (by simpa using hk))
      · have e : prt part r = [] := by unfold prt; rw [if_neg p0, if_neg p1, if_neg p2]
        rw [e] at hk
        simp at hk
theorem yieldsIf_build {P : Program} {ops : Array Oper} {S : World → Prop} {op : Oper} {a : Act} (hw : Region.wanted op (yielded ops a.tmps) = true) (t : TypeId) (parts : Array (Nat × Operand)) (ho : op.op = .build t parts) (vals : Array (Nat × Value)) (hp : (parts.map fun x => (x.1, a.eval x.2)) = vals) (v : Value) (hv : ∀ w, (Instr.build t vals).run P w = .ok v w) : YieldsIf P ops S op v a :=
  .inl ⟨hw, fun w _ => by
    unfold execOp
    simp only [ho, Sem.run_bind, hp, hv, Result.andThen_ok, Sem.run_pure]⟩
theorem wp_bd {P : Program} {ops : Array Oper} {rest : List Oper} {op : Oper} {a : Act} {w : World} {Q : Exit → Act → World → Prop} (hgd : op.guard = none) (t : TypeId) (parts : Array (Nat × Operand)) (ho : op.op = .build t parts) (vals : Array (Nat × Value)) (hp : (parts.map fun x => (x.1, a.eval x.2)) = vals) (v : Value) (hv : ∀ w, (Instr.build t vals).run P w = .ok v w)
    (h : wpList P ops Q rest (a.put op.dst v) w) : wpList P ops Q (op :: rest) a w :=
  wpList_plain hgd fun K hK => by
    unfold Oper.wp execOp
    simp only [ho, Sem.run_bind, hp, hv, Result.andThen_ok, Sem.run_pure]
    exact hK _ _ h
abbrev zSN : List Value := [.slice none 0 0, .int .i64 0, .int .i64 0, .int .i64 0, .int .i64 0, .slice none 0 0, .slice none 0 0, .slice none 0 0]
theorem bd_sn (tp up ap kp : Option Addr) (tn tc un uc an ac kn2 kc : Nat) (xn xt xs xe : Int) (w : World) : (Instr.build 80 #[(0, .slice tp tn tc), (1, .agg #[.int .i64 xn, .int .i64 xt, .int .i64 xs, .int .i64 xe, .slice up un uc]), (2, .slice ap an ac), (3, .slice kp kn2 kc)]).run Tryd.prog w = .ok (.agg #[.slice tp tn tc, .int .i64 xn, .int .i64 xt, .int .i64 xs, .int .i64 xe, .slice up un uc, .slice ap an ac, .slice kp kn2 kc]) w := by kernel_rfl
theorem ent_takes : ∀ args w, (callFunc 18 args).run Tryd.prog w = .ok (.enter 18 args) w := enters_of Tryd.func18 (by kernel_rfl) rfl
/-- The boxes of Takes. -/
structure Tkx (w W : World) (bk ev : List Value) (rb : Nat) (A : List Value) : Prop where
  bx : Bxs w W [(bk, 58), (ev, 40)]
  r : W.heap[rb]? = some (.cells A.toArray 55 (0, 0))
theorem Tkx.next {w W W' : World} {bk ev A : List Value} {rb : Nat} (h : Tkx w W bk ev rb A) (hb : Below W.heap.size W W') : Tkx w W' bk ev rb A := ⟨h.bx.next hb, (hb.block _ (blk_lt h.r)).trans h.r⟩
theorem bok_zero {ts : List Tp} {rs : List Rl} (h : bok ts rs = 0) : tks [] ts = 0 ∧ rks (rck ts) [] rs = 0 := by
  unfold bok bkf at h
  split at h
  · omega
  · split at h
    · rename_i c; exact absurd h c
    · rename_i c1
      split at h
      · rename_i c; exact absurd h c
      · rename_i c2
        exact ⟨Classical.byContradiction c1, Classical.byContradiction c2⟩
set_option maxHeartbeats 16000000 in
theorem takes_bad (ts : List Tp) (rs : List Rl) (hzz : ∀ r, r ∈ rs → Szr r) (tv rv : Value) (rule part at_ : Int) (x : Ev) (u : Value) (kn : List Ev) (kv : Value) (w : World) (hT : Rd w (.row 72 2 (ts.map encY)) tv) (hR : Rd w (.row 55 7 (rs.map encR)) rv) (htk : Tab w 0 kpl) (htr : Tab w 1 rll) (hu : Rd w (.row 29 3 (x.v.map encV)) u) (hK : Rd w (.row 40 5 (kn.map encX)) kv) (hb : bok ts rs ≠ 0) : Calls Tryd.prog 9 #[.agg #[tv, rv], .int .i64 rule, .int .i64 part, .int .i64 at_, evV x u, kv] w fun e w' => e = .returned (.tuple #[.bool (false), .int .i64 (bok ts rs)]) ∧ Below w.heap.size w w' := by
  have HCH := hid (fun W (hW : Below w.heap.size w W) => check_any ts rs hzz tv rv W (hT.later hW) (hR.later hW) (tab_later htk hW) (tab_later htr hW))
  obtain ⟨tp, tc, htv, _, _⟩ := rd_row lenY hT
  obtain ⟨rp, rc, hrv, hmr, _⟩ := rd_row lenR hR
  obtain ⟨up, un, uc, huv⟩ := rd_shape hu
  obtain ⟨kp, kn2, kc, hkv⟩ := rd_shape hK
  obtain ⟨E0, hE0⟩ : ∃ E, bok ts rs = E := ⟨_, rfl⟩
  rw [hE0] at HCH hb ⊢
  subst htv hrv huv hkv
  obtain ⟨xn, xt, xs, xe, xv⟩ := x
  simp only [evV] at *
  generalize ts.length = tn at *
  generalize rs.length = rn at *
  have hB : Bxs w ((w.alloc (.cells #[.slice tp tn tc, .slice rp rn rc] 58)).alloc (.cells #[.int .i64 xn, .int .i64 xt, .int .i64 xs, .int .i64 xe, .slice up un uc] 40)) [([.slice tp tn tc, .slice rp rn rc], 58), ([.int .i64 xn, .int .i64 xt, .int .i64 xs, .int .i64 xe, .slice up un uc], 40)] := bxs2 w _ _ _ _
  have HB := hid hB
  have d9 : (E0 != 0) = true := by simpa using hb
  clear hT hR htk htr hu hK hzz hE0 hb hB hmr
  go_enter Tryd.func9, Tryd.ntmps9
  go_wp2_with fail
  refine (HCH.out _ HB.out.bel).mono ?_
  rintro e w1 ⟨rfl, hb1⟩
  have HB1 := hid (HB.out.next hb1)
  clear hb1
  go_wp2_with fail
  go_ret2
  exact ⟨rfl, HB1.out.bel⟩
set_option maxHeartbeats 16000000 in
theorem takes_off (ts : List Tp) (rs : List Rl) (hzz : ∀ r, r ∈ rs → Szr r) (tv rv : Value) (rule part at_ : Int) (x : Ev) (u : Value) (kn : List Ev) (kv : Value) (w : World) (hT : Rd w (.row 72 2 (ts.map encY)) tv) (hR : Rd w (.row 55 7 (rs.map encR)) rv) (htk : Tab w 0 kpl) (htr : Tab w 1 rll) (hu : Rd w (.row 29 3 (x.v.map encV)) u) (hK : Rd w (.row 40 5 (kn.map encX)) kv) (hb : bok ts rs = 0) (hr : ¬ (0 ≤ rule ∧ rule < (rs.length : Int))) : Calls Tryd.prog 9 #[.agg #[tv, rv], .int .i64 rule, .int .i64 part, .int .i64 at_, evV x u, kv] w fun e w' => e = .returned (.tuple #[.bool (false), .int .i64 (2)]) ∧ Below w.heap.size w w' := by
  have HCH := hid (fun W (hW : Below w.heap.size w W) => check_any ts rs hzz tv rv W (hT.later hW) (hR.later hW) (tab_later htk hW) (tab_later htr hW))
  obtain ⟨tp, tc, htv, _, _⟩ := rd_row lenY hT
  obtain ⟨rp, rc, hrv, hmr, _⟩ := rd_row lenR hR
  obtain ⟨up, un, uc, huv⟩ := rd_shape hu
  obtain ⟨kp, kn2, kc, hkv⟩ := rd_shape hK
  rw [hb] at HCH
  subst htv hrv huv hkv
  obtain ⟨xn, xt, xs, xe, xv⟩ := x
  simp only [evV] at *
  generalize ts.length = tn at *
  generalize rs.length = rn at *
  have hB : Bxs w ((w.alloc (.cells #[.slice tp tn tc, .slice rp rn rc] 58)).alloc (.cells #[.int .i64 xn, .int .i64 xt, .int .i64 xs, .int .i64 xe, .slice up un uc] 40)) [([.slice tp tn tc, .slice rp rn rc], 58), ([.int .i64 xn, .int .i64 xt, .int .i64 xs, .int .i64 xe, .slice up un uc], 40)] := bxs2 w _ _ _ _
  have HB := hid hB
  clear hT hR htk htr hu hK hzz hb hB hmr
  by_cases h0 : rule < 0
  · have d1 : decide (rule < 0) = true := by simpa using h0
    clear hr
    go_enter Tryd.func9, Tryd.ntmps9
    go_wp2_with fail
    refine (HCH.out _ HB.out.bel).mono ?_
    rintro e w1 ⟨rfl, hb1⟩
    have HB1 := hid (HB.out.next hb1)
    clear hb1
    go_wp2_with fail
    go_ret2
    exact ⟨rfl, HB1.out.bel⟩
  · have d1 : decide (rule < 0) = false := by simpa using h0
    have h1 : (rn : Int) ≤ rule := by omega
    have d2 : decide (rule ≥ (rn : Int)) = true := by simpa using h1
    clear hr
    go_enter Tryd.func9, Tryd.ntmps9
    go_wp2_with fail
    refine (HCH.out _ HB.out.bel).mono ?_
    rintro e w1 ⟨rfl, hb1⟩
    have HB1 := hid (HB.out.next hb1)
    have c1 : w1.cell? ⟨w.heap.size, 1, none⟩ = some (.slice rp rn rc) := HB1.out.c 0 (by simp) 1
    clear hb1
    go_wp2_with fail
    go_ret2
    exact ⟨rfl, HB1.out.bel⟩
set_option maxHeartbeats 64000000 in
theorem takes_main (ts : List Tp) (rs : List Rl) (hzz : ∀ r, r ∈ rs → Szr r) (tv rv : Value) (rule part at_ : Int) (x : Ev) (u : Value) (kn : List Ev) (kv : Value) (w : World) (hT : Rd w (.row 72 2 (ts.map encY)) tv) (hR : Rd w (.row 55 7 (rs.map encR)) rv) (htk : Tab w 0 kpl) (htr : Tab w 1 rll) (hu : Rd w (.row 29 3 (x.v.map encV)) u) (hK : Rd w (.row 40 5 (kn.map encX)) kv) (hb : bok ts rs = 0) (k : Nat) (hk : k < rs.length) (hr : rule = (k : Int)) (R : Bool × Int) (hRR : tkr ts rs rule part at_ x kn = R) : Calls Tryd.prog 9 #[.agg #[tv, rv], .int .i64 rule, .int .i64 part, .int .i64 at_, evV x u, kv] w fun e w' => e = .returned (.tuple #[.bool (R.1), .int .i64 (R.2)]) ∧ Below w.heap.size w w' := by
  obtain ⟨hts, hrs⟩ := bok_zero hb
  have hty : ∀ i (hi : i < ts.length), tyk ts[i].n ts[i].f = 0 := fun i hi => tks_all ts [] hts _ (List.getElem_mem hi)
  have hrk := rks_all rs [] hrs _ (List.getElem_mem hk)
  have hds := dst_of hts
  have hszr := hzz _ (List.getElem_mem hk)
  have hgd : rs.getD rule.toNat r0 = rs[k] := by rw [hr, Int.toNat_natCast]; exact getD_lt hk _
  unfold tkr at hRR
  rw [if_neg (fun c => c hb), if_neg (fun c => c (by omega)), hgd] at hRR
  subst hr
  have HCH := hid (fun W (hW : Below w.heap.size w W) => check_any ts rs hzz tv rv W (hT.later hW) (hR.later hW) (tab_later htk hW) (tab_later htr hW))
  obtain ⟨tp, tc, htv, _, _⟩ := rd_row lenY hT
  obtain ⟨rp, rc, hrv, hmr, _⟩ := rd_row lenR hR
  obtain ⟨up, un, uc, huv⟩ := rd_shape hu
  obtain ⟨kp, kn2, kc, hkv⟩ := rd_shape hK
  rw [hb] at HCH
  obtain ⟨g, off, A, hrg, hA⟩ : ∃ g off A, rp = some ⟨g, off, none⟩ ∧ (∀ W, Below w.heap.size w W → W.rangeAt g (off + k * 7) A) ∧ RdL w (encR rs[k]) A := by
    obtain ⟨p, cap, e0, _, hat⟩ := rd_row lenR hR
    obtain ⟨g, off, rfl, hrd⟩ := hat (by omega)
    obtain ⟨A, r1, o1⟩ := hrd w (Below.refl _ _) k hk
    rw [hrv] at e0
    simp only [Value.slice.injEq] at e0
    exact ⟨g, off, A, e0.1, fun W hW => range_below r1 hW, o1⟩
  obtain ⟨v1, v2, v3, v4, v5, z1, o1, o2, o3, o4, o5⟩ := rdR hA.2
  obtain ⟨a1, a2, a3, hu1⟩ := rd_shape o1
  obtain ⟨b1, b2, b3, hu2⟩ := rd_shape o2
  obtain ⟨d1, d2, d3, hu3⟩ := rd_shape o3
  obtain ⟨f1, f2, f3, hu4⟩ := rd_shape o4
  obtain ⟨g1, g2, g3, hu5⟩ := rd_shape o5
  have hAz : A.length = 7 := hA.2.1.symm
  have HAO : Hid (A.all (·.oneCell') = true) := by show _ = _; rw [z1, hu1, hu2, hu3, hu4, hu5]; rfl
  have ZA : Hid ((Tryd.prog.info? 55).map (·.size) = some A.length) := by show _ = _; rw [hAz]; kernel_rfl
  have HAL := hid hAz
  have hm100 : rs[k].m.length ≤ 100 := by have h := (rck_ok hrk).2; unfold szs at h; omega
  have HPT : Hid (∀ W, Below w.heap.size w W → Calls Tryd.prog 14 #[.agg A.toArray, .int .i64 part] W fun e w' => ∃ v, e = .returned v ∧ Rd w' (.row 47 18 ((prt part rs[k]).map encP)) v ∧ Below W.heap.size W w') := fun W hW => by
    rw [z1]
    exact patS_any rs[k] v1 v2 v3 v4 v5 W (o1.later hW) (o2.later hW) (o3.later hW) (o4.later hW) (o5.later hW) hm100 part
  have HAS0 : Hid (∀ (j : Nat), (part = 0 → j ≤ rs[k].w.length) → ∀ W, Below w.heap.size w W → Calls Tryd.prog 16 #[.agg A.toArray, .int .i64 part, .int .i64 (j : Nat)] W fun e w' => ∃ v, e = .returned v ∧ Rd w (.row 47 18 ((asq part j rs[k].w).map encP)) v ∧ Below W.heap.size W w') := fun j hj W hW => by
    rw [z1]
    exact (asked_s rs[k] v1 v2 v3 v4 v5 W (o1.later hW) (o2.later hW) (o3.later hW) (o4.later hW) (o5.later hW) part j j (fun h => ⟨rfl, hj h⟩)).mono fun e w' ⟨v, e1, e2, e3⟩ => ⟨v, e1, e2 w o1, e3⟩
  have HCE := hid (fun W (hW : Below w.heap.size w W) => checkEvents_s ts x kn tv u kv W (hT.later hW) (hu.later hW) (hK.later hW))
  have HCK0 := hid (fun (j : Nat) (av : Value) (hev : ∀ y, y ∈ kn → evk ts y = 0) (ha : Rd w (.row 47 18 ((asq part j rs[k].w).map encP)) av) W (hW : Below w.heap.size w W) => checkKnown_s ts (asq part j rs[k].w) kn tv av kv hev W (hT.later hW) (ha.later hW) (hK.later hW))
  have HTA0 := hid (fun (j : Nat) (hj : j < (prt part rs[k]).length) (av : Value) (hx : evk ts x = 0) (hkn : Kok ts (asq part j rs[k].w) kn) (ha : Rd w (.row 47 18 ((asq part j rs[k].w).map encP)) av) W (hW : Below w.heap.size w W) (PA : List Value) (hPA : RdL W (encP (prt part rs[k])[j]) PA) => takes_s ts (asq part j rs[k].w) x kn tv u av kv ⟨hty, hx, hkn⟩ hds (prt part rs[k])[j] (rck_pok hrk hj) (szr_prt hszr hj) PA W ⟨hT.later hW, hu.later hW, ha.later hW, hK.later hW⟩ hPA)
  obtain ⟨E1, hE1⟩ : ∃ E, (if evk ts x ≠ 0 then evk ts x else efs ts kn) = E := ⟨_, rfl⟩
  have hz1 : E1 = 0 → evk ts x = 0 ∧ efs ts kn = 0 := fun h => by
    rw [h] at hE1
    split at hE1
    · rename_i c; exact absurd hE1 c
    · rename_i c; exact ⟨Classical.byContradiction c, hE1⟩
  have hz2 : ∀ c : Bool × Int, (if evk ts x ≠ 0 then (false, evk ts x) else if efs ts kn ≠ 0 then (false, efs ts kn) else c) = if E1 ≠ 0 then (false, E1) else c := fun c => by
    by_cases h1 : evk ts x = 0
    · rw [if_neg (fun d => d h1)] at hE1 ⊢
      rw [hE1]
    · rw [if_pos h1] at hE1 ⊢
      rw [← hE1, if_pos h1]
  rw [hE1] at HCE
  rw [hz2] at hRR
  have HZ1 := hid (fun h => And.intro (hz1 h).1 (efs_all kn (hz1 h).2))
  have HDS := hid hds
  have HRR := hid hRR
  clear hE1 hz1 hz2
  have HXR := hid hA.1
  clear o1 o2 o3 o4 o5 hu1 hu2 hu3 hu4 hu5 z1 hAz hm100 hA hgd hszr hrk hty hts hrs hb hds hRR
  subst htv huv hkv
  rw [hrg] at hrv
  subst hrv
  obtain ⟨xn, xt, xs, xe, xv⟩ := x
  simp only [evV, snV] at HCE HCK0 HTA0 HCH HZ1 ⊢
  obtain ⟨tn, htn⟩ : ∃ n, ts.length = n := ⟨_, rfl⟩
  obtain ⟨rn, hrn⟩ : ∃ n, rs.length = n := ⟨_, rfl⟩
  rw [htn] at HCH HCE HCK0 HTA0 ⊢
  rw [hrn] at HCH hk ⊢
  have hB : Bxs w ((w.alloc (.cells #[.slice tp tn tc, .slice (some ⟨g, off, none⟩) rn rc] 58)).alloc (.cells #[.int .i64 xn, .int .i64 xt, .int .i64 xs, .int .i64 xe, .slice up un uc] 40)) [([.slice tp tn tc, .slice (some ⟨g, off, none⟩) rn rc], 58), ([.int .i64 xn, .int .i64 xt, .int .i64 xs, .int .i64 xe, .slice up un uc], 40)] := bxs2 w _ _ _ _
  have HB := hid hB
  have i1 : (0 : Int) ≤ (k : Int) := by omega
  have i2 : (k : Int) < (rn : Int) := by omega
  have y1 : decide ((k : Int) < 0) = false := by simp
  have y2 : decide ((k : Int) ≥ (rn : Int)) = false := by simp; omega
  clear hT hR htk htr hu hK hzz hB hmr htn hrn hrg
  go_enter Tryd.func9, Tryd.ntmps9
  go_wp2_with fail
  refine (HCH.out _ HB.out.bel).mono ?_
  rintro e w1 ⟨rfl, hb1⟩
  have HB1 := hid (HB.out.next hb1)
  have c0 : w1.cell? ⟨w.heap.size, 0, none⟩ = some (.slice tp tn tc) := HB1.out.c 0 (by simp) 0
  have c1 : w1.cell? ⟨w.heap.size, 1, none⟩ = some (.slice (some ⟨g, off, none⟩) rn rc) := HB1.out.c 0 (by simp) 1
  have X1_ := hid (HXR.out w1 HB1.out.bel)
  clear hb1 HCH HB
  go_wp2_with (first
    | ((with_reducible show wpList _ _ _ (Oper.mk _ (.load _ _) _ _ _ _ :: _) _ _); refine wpList_load_mid (by rfl) 55 _ (by rfl) g (off + k * 7) (by rfl) A _ X1_.out Tryd.underlying55 rfl ZA.out ?_)
    | ((with_reducible show wpList _ _ _ (Oper.mk _ (.store _ _ _) _ _ _ _ :: _) _ _); refine wp_st (by rfl) 55 _ _ (by rfl) w1.heap.size 0 _ 55 (.agg A.toArray) A (by rfl) (by rfl) (by rfl) (heap_alloc_new _ _) (by have := HAL.out; simp; omega) ZA.out HAO.out ?_; intro w2 hblk hfr; rw [ovr_all (by rw [HAL.out]; rfl)] at hblk; have XB : Hid (w2.rangeAt w1.heap.size 0 A) := range_blk hblk; have HBW : Hid (Below w1.heap.size w1 w2) := new_store hfr; have HX2 : Hid (Tkx w w2 [.slice tp tn tc, .slice (some ⟨g, off, none⟩) rn rc] [.int .i64 xn, .int .i64 xt, .int .i64 xs, .int .i64 xe, .slice up un uc] w1.heap.size A) := ⟨HB1.out.next HBW.out, hblk⟩; clear hblk hfr)
    | ((with_reducible show wpList _ _ _ (Oper.mk _ (.load _ _) _ _ _ _ :: _) _ _); refine wpList_load_mid (by rfl) 55 _ (by rfl) w1.heap.size 0 (by rfl) A _ XB.out Tryd.underlying55 rfl ZA.out ?_))
  refine (HPT.out _ HX2.out.bx.bel).mono ?_
  rintro e w3 ⟨pv, rfl, hrd3, hb3⟩
  obtain ⟨pp, pc, rfl, hpx, hat3⟩ := rd_row lenP hrd3
  have HX3 := hid (HX2.out.next hb3)
  obtain ⟨rb, hrb⟩ : ∃ rb, w1.heap.size = rb := ⟨_, rfl⟩
  rw [hrb] at HX3
  have HAT3 := hid hat3
  obtain ⟨np, hnp⟩ : ∃ np, (prt part rs[k]).length = np := ⟨_, rfl⟩
  have HNP := hid hnp
  rw [hnp] at hpx HRR ⊢
  rw [hrb]
  clear hrd3 hb3 hat3 hnp hrb c0 c1 X1_ HPT XB HBW HX2 HB1
  by_cases hat : 0 ≤ at_ ∧ at_ < (np : Int)
  · obtain ⟨j, rfl⟩ : ∃ j : Nat, at_ = (j : Int) := ⟨at_.toNat, by omega⟩
    have hjn : j < np := by omega
    have hjl : j < (prt part rs[k]).length := by rw [HNP.out]; exact hjn
    have HR1 := HRR.out
    rw [if_neg (fun c => c hat)] at HR1
    have HR2 := hid HR1
    have z1 : decide ((j : Int) < 0) = false := by simp
    have z2 : decide ((j : Int) ≥ (np : Int)) = false := by simp; omega
    have i3 : (0 : Int) ≤ (j : Int) := by omega
    have i4 : (j : Int) < (np : Int) := by omega
    have c0 : w3.cell? ⟨w.heap.size, 0, none⟩ = some (.slice tp tn tc) := HX3.out.bx.c 0 (by simp) 0
    have XX := hid (HX3.out.bx.r 1 (by simp))
    clear HR1 hat HRR
    go_wp2_with ((with_reducible show wpList _ _ _ (Oper.mk _ (.load _ _) _ _ _ _ :: _) _ _); refine wpList_load_mid (by rfl) 40 _ (by rfl) (w.heap.size + 1) 0 (by rfl) [.int .i64 xn, .int .i64 xt, .int .i64 xs, .int .i64 xe, .slice up un uc] _ XX.out Tryd.underlying40 rfl (by kernel_rfl) ?_)
    refine (HCE.out _ HX3.out.bx.bel).mono ?_
    rintro e w4 ⟨rfl, hb4⟩
    have HX4 := hid (HX3.out.next hb4)
    have HB34 := hid hb4
    clear hb4 c0 XX HCE
    obtain ⟨K2, hK2⟩ : ∃ K, knk ts (asq part j rs[k].w) kn = K := ⟨_, rfl⟩
    obtain ⟨t2, ht2⟩ : ∃ t, tkb ts (asq part j rs[k].w) ⟨xn, xt, xs, xe, xv⟩ kn (prt part rs[k])[j] = t := ⟨_, rfl⟩
    have hR5 := HR2.out
    rw [Int.toNat_natCast, getD_lt hjl, hK2, ht2] at hR5
    have HR5 := hid hR5
    clear HR2 hR5
    by_cases hz : E1 = 0
    · obtain ⟨hx0, hkn0⟩ := HZ1.out hz
      have HR6 := HR5.out
      rw [if_neg (fun c => c hz)] at HR6
      have HR7 := hid HR6
      subst hz
      have HAS := hid (HAS0.out j (fun h => by
        have e : prt part rs[k] = rs[k].w := by unfold prt; rw [if_pos h]
        rw [e] at hjl
        omega))
      have HCK1 := hid (fun av => HCK0.out j av hkn0)
      have HTA1 := hid (fun av (h : K2 = 0) => HTA0.out j hjl av hx0 (knk_ok HDS.out (hK2.trans h) hkn0))
      rw [hK2] at HCK1
      rw [ht2] at HTA1
      have XR4 := hid (range_blk HX4.out.r)
      clear HR6 HR5 HAS0 HCK0 HTA0 HZ1 hK2 ht2 hx0 hkn0
      go_wp2_with ((with_reducible show wpList _ _ _ (Oper.mk _ (.load _ _) _ _ _ _ :: _) _ _); refine wpList_load_mid (by rfl) 55 _ (by rfl) rb 0 (by rfl) A _ XR4.out Tryd.underlying55 rfl ZA.out ?_)
      refine (HAS.out _ HX4.out.bx.bel).mono ?_
      rintro e w5 ⟨av, rfl, hrd5, hb5⟩
      obtain ⟨ap, an, ac, rfl⟩ := rd_shape hrd5
      have HRD5 := hid hrd5
      have HX5 := hid (HX4.out.next hb5)
      have HB35 := hid (below_trans HB34.out hb5 HB34.out.size)
      have c0 : w5.cell? ⟨w.heap.size, 0, none⟩ = some (.slice tp tn tc) := HX5.out.bx.c 0 (by simp) 0
      have HCK := hid (HCK1.out _ hrd5)
      have HTA2 := hid (fun h => HTA1.out _ h hrd5)
      clear hrd5 hb5 XR4 HAS HCK1 HTA1
      go_wp2_with fail
      refine (HCK.out _ HX5.out.bx.bel).mono ?_
      rintro e w6 ⟨rfl, hb6⟩
      have HX6 := hid (HX5.out.next hb6)
      have HB36 := hid (below_trans HB35.out hb6 HB35.out.size)
      clear hb6 c0 HCK
      by_cases hz2 : K2 = 0
      · have HRT : Hid (R = (t2, 0)) := by have h := HR7.out; rw [if_neg (fun c => c hz2)] at h; exact h.symm
        have hTA3 := HTA2.out hz2
        subst hz2
        obtain ⟨UL, hUL⟩ : ∃ UL : List Value, [.slice tp tn tc, .int .i64 xn, .int .i64 xt, .int .i64 xs, .int .i64 xe, .slice up un uc, .slice ap an ac, .slice kp kn2 kc] = UL := ⟨_, rfl⟩
        have hsv : (Value.agg #[.slice tp tn tc, .int .i64 xn, .int .i64 xt, .int .i64 xs, .int .i64 xe, .slice up un uc, .slice ap an ac, .slice kp kn2 kc]) = .agg UL.toArray := by rw [← hUL]
        rw [hsv] at hTA3
        have ZU : Hid ((Tryd.prog.info? 80).map (·.size) = some UL.length) := by show _ = _; rw [← hUL]; kernel_rfl
        have hUO : UL.all (·.oneCell') = true := by rw [← hUL]; rfl
        have HUO := hid hUO
        have HUZ : Hid (UL.length = 8) := by show _ = _; rw [← hUL]; rfl
        have HBD : Hid (∀ w, (Instr.build 80 #[(0, .slice tp tn tc), (1, .agg #[.int .i64 xn, .int .i64 xt, .int .i64 xs, .int .i64 xe, .slice up un uc]), (2, .slice ap an ac), (3, .slice kp kn2 kc)]).run Tryd.prog w = .ok (.agg UL.toArray) w) := fun w => by rw [← hsv]; exact bd_sn _ _ _ _ _ _ _ _ _ _ _ _ _ _ _ _ w
        have c0 : w6.cell? ⟨w.heap.size, 0, none⟩ = some (.slice tp tn tc) := HX6.out.bx.c 0 (by simp) 0
        have XX := hid (HX6.out.bx.r 1 (by simp))
        obtain ⟨g3, off3, e13, hrd3⟩ := HAT3.out (by omega)
        have HRD3 := hid hrd3
        subst e13
        have HTA3 := hid hTA3
        clear hUL hsv hUO hTA3 hrd3 HTA2 HR7
        go_wp2_with (first
          | ((with_reducible show wpList _ _ _ (Oper.mk _ (.load _ _) _ _ _ _ :: _) _ _); refine wpList_load_mid (by rfl) 40 _ (by rfl) (w.heap.size + 1) 0 (by rfl) [.int .i64 xn, .int .i64 xt, .int .i64 xs, .int .i64 xe, .slice up un uc] _ XX.out Tryd.underlying40 rfl (by kernel_rfl) ?_)
          | ((with_reducible show wpList _ _ _ (Oper.mk _ (.build _ _) _ _ _ _ :: _) _ _); refine wp_bd (by rfl) 80 _ (by rfl) #[(0, .slice tp tn tc), (1, .agg #[.int .i64 xn, .int .i64 xt, .int .i64 xs, .int .i64 xe, .slice up un uc]), (2, .slice ap an ac), (3, .slice kp kn2 kc)] (by simp [Act.eval, Act.put]) _ HBD.out ?_)
          | ((with_reducible show wpList _ _ _ (Oper.mk _ (.store _ _ _) _ _ _ _ :: _) _ _); refine wp_st (by rfl) 80 _ _ (by rfl) w6.heap.size 0 zSN 80 (.agg UL.toArray) UL (by rfl) (by rfl) (by rfl) (heap_alloc_new _ _) (by have := HUZ.out; simp; omega) ZU.out HUO.out ?_; intro w7 hblk hfr; rw [ovr_all (by rw [HUZ.out]; rfl)] at hblk; have XU7 : Hid (w7.rangeAt w6.heap.size 0 UL) := range_blk hblk; have HB67 : Hid (Below w6.heap.size w6 w7) := new_store hfr; clear hblk hfr))
        have HX7 := hid (HX6.out.next HB67.out)
        obtain ⟨PA, r3, o3⟩ := HRD3.out w7 (below_trans HB36.out HB67.out HB36.out.size) j hjl
        have hPz : PA.length = 18 := o3.1.symm
        have ZP : Hid ((Tryd.prog.info? 47).map (·.size) = some PA.length) := by show _ = _; rw [hPz]; kernel_rfl
        have XP7 := hid r3
        have HTA := hid (fun W (hW : Below w7.heap.size w7 W) => HTA3.out W (below_trans HX7.out.bx.bel hW HX7.out.bx.bel.size) PA (o3.below hW))
        obtain ⟨sb, hsb⟩ : ∃ sb, w6.heap.size = sb := ⟨_, rfl⟩
        rw [hsb] at XU7 ⊢
        clear r3 o3 hPz HTA3 HRD3 c0 XX hsb
        go_wp2_with fail
        refine start_n (S := (fun w' => w'.rangeAt sb 0 UL ∧ w'.rangeAt g3 (off3 + j * 18) PA)) 8 #[false, false, false, false, false, false, false, false] rfl rfl (by kernel_rfl) (⟨range_below XU7.out (Below.drew (Below.refl _ _)), range_below XP7.out (Below.drew (Below.refl _ _))⟩) (fun hHeld => ?_)
        refine take_mk (i := 1) (v := ?v1) rfl (by kernel_rfl) (by kernel_rfl) (by kernel_rfl) (fun _ _ _ h => h) (Or.inl ⟨by rfl, ?hy1⟩) (by assumption) ?rest1
        case hy1 => (intro w0 hSw; (try dsimp only at hSw); go_simp <;> (try (with_reducible rfl)))
        (try simp only [Act.put, List.setIfInBounds_toArray, List.set_cons_zero, List.set_cons_succ])
        refine take_mk (i := 2) (v := ?v2) rfl (by kernel_rfl) (by kernel_rfl) (by kernel_rfl) (fun _ _ _ h => h) (Or.inl ⟨by rfl, ?hy2⟩) (by assumption) ?rest2
        case hy2 => (intro w0 hSw; (try dsimp only at hSw); go_simp <;> (try (with_reducible rfl)))
        (try simp only [Act.put, List.setIfInBounds_toArray, List.set_cons_zero, List.set_cons_succ])
        refine take_mk (i := 3) (v := ?v3) rfl (by kernel_rfl) (by kernel_rfl) (by kernel_rfl) (fun _ _ _ h => h) (Or.inl ⟨by rfl, ?hy3⟩) (by assumption) ?rest3
        case hy3 => (intro w0 hSw; (try dsimp only at hSw); go_simp <;> (try (with_reducible rfl)))
        (try simp only [Act.put, List.setIfInBounds_toArray, List.set_cons_zero, List.set_cons_succ])
        refine take_mk (i := 0) rfl (by kernel_rfl) (by kernel_rfl) (by kernel_rfl) (fun _ _ _ h => h) (yieldsIf_load_mid (by rfl) 80 _ rfl sb (0) (by rfl) UL _ (fun _ h => h.1) Tryd.underlying80 rfl ZU.out) (by assumption) ?_
        (try simp only [Act.put, List.setIfInBounds_toArray, List.set_cons_zero, List.set_cons_succ])
        refine take_mk (i := 4) rfl (by kernel_rfl) (by kernel_rfl) (by kernel_rfl) (fun _ _ _ h => h) (yieldsIf_load_mid (by rfl) 47 _ rfl g3 (off3 + j * 18) (by rfl) PA _ (fun _ h => h.2) Tryd.underlying47 rfl ZP.out) (by assumption) ?_
        (try simp only [Act.put, List.setIfInBounds_toArray, List.set_cons_zero, List.set_cons_succ])
        refine wpAnyH_ready (rs := [5]) (by kernel_rfl) (by simp) ?_
        refine cons_mk rfl (fun K hK => ?_) AllReadyH.nil
        refine step_call2 18 ent_takes (by rfl) _ _ _ (by rfl) (.agg UL.toArray) (.agg PA.toArray) (by rfl) (by rfl) _ (HTA.out _ (Below.drew (Below.refl _ _))) ?_
        rintro e w8 ⟨rfl, hb8⟩
        refine ⟨_, rfl, ?_⟩
        have HB8 : Hid (Below w7.heap.size w7 w8) := below_trans (Below.drew (Below.refl _ _)) hb8 (Nat.le_refl _)
        clear hb8
        refine hK.out _ _ (⟨range_below XU7.out HB8.out, range_below XP7.out HB8.out⟩) (fun hHeld => ?_)
        clear hK K
        (try simp only [Act.put, List.setIfInBounds_toArray, List.set_cons_zero, List.set_cons_succ])
        refine take_mk (i := 6) (v := ?v4) rfl (by kernel_rfl) (by kernel_rfl) (by kernel_rfl) (fun _ _ _ h => h) (Or.inl ⟨by rfl, ?hy4⟩) (by assumption) ?rest4
        case hy4 => (intro w0 hSw; (try dsimp only at hSw); go_simp <;> (try (with_reducible rfl)))
        (try simp only [Act.put, List.setIfInBounds_toArray, List.set_cons_zero, List.set_cons_succ])
        refine take_mk (i := 7) (v := ?v5) rfl (by kernel_rfl) (by kernel_rfl) (by kernel_rfl) (fun _ _ _ h => h) (Or.inl ⟨by rfl, ?hy5⟩) (by assumption) ?rest5
        case hy5 => (intro w0 hSw; (try dsimp only at hSw); go_simp <;> (try (with_reducible rfl)))
        (try simp only [Act.put, List.setIfInBounds_toArray, List.set_cons_zero, List.set_cons_succ])
        refine wpAnyH_done (by kernel_rfl) ?_ _
        go_wp2_with fail
        go_ret2
        exact ⟨by rw [HRT.out]; rfl, below_trans HX7.out.bx.bel HB8.out HX7.out.bx.bel.size⟩
      · have HRT : Hid (R = (false, K2)) := by have h := HR7.out; rw [if_pos hz2] at h; exact h.symm
        have d9 : (K2 != 0) = true := by simpa using hz2
        go_wp2_with fail
        go_ret2
        exact ⟨by rw [HRT.out]; rfl, HX6.out.bx.bel⟩
    · have HRT : Hid (R = (false, E1)) := by have h := HR5.out; rw [if_pos hz] at h; exact h.symm
      have d9 : (E1 != 0) = true := by simpa using hz
      clear HR5
      go_wp2_with fail
      go_ret2
      exact ⟨by rw [HRT.out]; rfl, HX4.out.bx.bel⟩
  · have z0 : Hid (R = (false, 2)) := by have h := HRR.out; rw [if_pos hat] at h; exact h.symm
    by_cases h0 : at_ < 0
    · have d1 : decide (at_ < 0) = true := by simpa using h0
      go_wp2_with fail
      go_ret2
      exact ⟨by rw [z0.out]; rfl, HX3.out.bx.bel⟩
    · have d1 : decide (at_ < 0) = false := by simpa using h0
      have h1 : (np : Int) ≤ at_ := by omega
      have d2 : decide (at_ ≥ (np : Int)) = true := by simpa using h1
      go_wp2_with fail
      go_ret2
      exact ⟨by rw [z0.out]; rfl, HX3.out.bx.bel⟩
/-- Takes, for every book whose names are sized, every event and all known ones. -/
theorem takesP_any (ts : List Tp) (rs : List Rl) (hzz : ∀ r, r ∈ rs → Szr r) (tv rv : Value) (rule part at_ : Int) (x : Ev) (u : Value) (kn : List Ev) (kv : Value) (w : World) (hT : Rd w (.row 72 2 (ts.map encY)) tv) (hR : Rd w (.row 55 7 (rs.map encR)) rv) (htk : Tab w 0 kpl) (htr : Tab w 1 rll) (hu : Rd w (.row 29 3 (x.v.map encV)) u) (hK : Rd w (.row 40 5 (kn.map encX)) kv) : Calls Tryd.prog 9 #[.agg #[tv, rv], .int .i64 rule, .int .i64 part, .int .i64 at_, evV x u, kv] w fun e w' => e = .returned (.tuple #[.bool ((tkr ts rs rule part at_ x kn).1), .int .i64 ((tkr ts rs rule part at_ x kn).2)]) ∧ Below w.heap.size w w' := by
  by_cases hb : bok ts rs = 0
  · by_cases hr : 0 ≤ rule ∧ rule < (rs.length : Int)
    · obtain ⟨k, rfl⟩ : ∃ k : Nat, rule = (k : Int) := ⟨rule.toNat, by omega⟩
      exact takes_main ts rs hzz tv rv k part at_ x u kn kv w hT hR htk htr hu hK hb k (by omega) rfl _ rfl
    · have e : tkr ts rs rule part at_ x kn = (false, 2) := by unfold tkr; rw [if_neg (fun c => c hb), if_pos hr]
      rw [e]
      exact takes_off ts rs hzz tv rv rule part at_ x u kn kv w hT hR htk htr hu hK hb hr
  · have e : tkr ts rs rule part at_ x kn = (false, bok ts rs) := by unfold tkr; rw [if_pos hb]
    rw [e]
    exact takes_bad ts rs hzz tv rv rule part at_ x u kn kv w hT hR htk htr hu hK hb
end Go.Proofs.YtnajcoikcoegoaaDoor.Chk
