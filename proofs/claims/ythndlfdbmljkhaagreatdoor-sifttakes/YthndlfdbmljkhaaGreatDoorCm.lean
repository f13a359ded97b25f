/-
  What comes of what, by the reference.
-/
import Derived.Test.YthndlfdbmljkhaaGreatDoorCl
namespace Go.Proofs.YthndlfdbmljkhaaGreatDoor.Chk
open Go.ChangeShapes Go.WideShapes Go.ChangeAt Go.RowKit Go.Maps
set_option linter.unusedVariables false
set_option linter.unusedSimpArgs false
set_option maxRecDepth 20000
theorem rdR {w : World} {r : Rl} {vs : List Value} (h : RdL w (encR r) vs) : ∃ v1 v2 v3 v4 v5, vs = [.string r.n, v1, v2, v3, v4, .string r.e.ty, v5] ∧ Rd w (.row 65 18 (r.w.map encP)) v1 ∧ Rd w (.row 65 18 (r.t.map encP)) v2 ∧ Rd w (.row 68 20 (r.m.map encM)) v3 ∧ Rd w (.row 103 3 (r.k.map encK)) v4 ∧ Rd w (.row 61 6 (r.e.v.map encO)) v5 := by
  obtain ⟨v0, r0, rfl, h0, h⟩ := RdL.one h
  obtain ⟨v1, r1, rfl, h1, h⟩ := RdL.one h
  obtain ⟨v2, r2, rfl, h2, h⟩ := RdL.one h
  obtain ⟨v3, r3, rfl, h3, h⟩ := RdL.one h
  obtain ⟨v4, r4, rfl, h4, h⟩ := RdL.one h
  obtain ⟨v5, r5, rfl, h5, h⟩ := RdL.one h
  obtain ⟨v6, r6, rfl, h6, h⟩ := RdL.one h
  rw [rd_lit h0, rd_lit h5, RdL.none h]
  exact ⟨v1, v2, v3, v4, v6, rfl, h1, h2, h3, h4, h6⟩
/-- Does an event of a type come of events of another one, by so many rules at most? -/
def cmo (rs : List Rl) (to : ByteArray) : Nat → ByteArray → Bool
  | 0, _ => false
  | n + 1, nm => rs.any fun x => !(emp x.e.ty) && (spk x.w x.t x.m nm && (seq x.e.ty to || cmo rs to n x.e.ty))
set_option maxHeartbeats 16000000 in
theorem comesOf_any (rs : List Rl) (to : ByteArray) (tp : Option Addr) (tl tc : Nat) (rv : Value) : ∀ (n : Nat) (nm : ByteArray) (w : World), n ≤ 1000 → Rd w (.row 49 7 (rs.map encR)) rv → Calls Tryz.prog 37 #[.agg #[.slice tp tl tc, rv], .string to, .string nm, .int .i64 (n : Int)] w fun e w' => e = .returned (.bool (cmo rs to n nm)) ∧ Below w.heap.size w w' := by
  intro n
  induction n with
  | zero =>
    intro nm w _ hR
    obtain ⟨rp, rc, rfl, hmx, hat⟩ := rd_row lenR hR
    obtain ⟨nr, hnr⟩ : ∃ l, rs.length = l := ⟨_, rfl⟩
    rw [hnr] at hmx ⊢
    unfold cmo
    have HB0 : Hid (BlkT w (w.alloc (.cells [.slice tp tl tc, .slice rp nr rc].toArray 25)) [.slice tp tl tc, .slice rp nr rc] 25) := BlkT.start w _ _
    clear hR hat hnr
    go_enter Tryz.func37, Tryz.ntmps37
    go_wp2_with fail
    go_loopw [9, 10] (fun i _ wr => i = .int .i64 0 ∧ BlkT w wr [.slice tp tl tc, .slice rp nr rc] 25) (fun _ _ _ => 0)
    case atStart => exact ⟨rfl, HB0.out⟩
    case round =>
      obtain ⟨rfl, hTr⟩ := hrel
      have HT := hid hTr
      have y1 : wr.cell? ⟨w.heap.size, 1, none⟩ = some (.slice rp nr rc) := hTr.c 1
      clear hTr HB0
      by_cases h0 : (0 : Int) < (nr : Int)
      · go_wp2_with fail
        go_ret
        exact ⟨rfl, HT.out.bel⟩
      · go_wp2_with fail
        go_ret
        exact ⟨rfl, HT.out.bel⟩
  | succ n ih =>
    intro nm w hn9 hR
    have hR0 := hR
    obtain ⟨rp, rc, rfl, hmx, hat⟩ := rd_row lenR hR
    obtain ⟨nr, hnr⟩ : ∃ l, rs.length = l := ⟨_, rfl⟩
    have HAT := hid hat
    have HN := hid hnr
    rw [hnr] at hmx hR0 ih ⊢
    have HIH : Hid (∀ x W, Below w.heap.size w W → Calls Tryz.prog 37 #[.agg #[.slice tp tl tc, .slice rp nr rc], .string to, .string x, .int .i64 (n : Int)] W fun e w' => e = .returned (.bool (cmo rs to n x)) ∧ Below W.heap.size W w') := fun x W hW => ih x W (by omega) (hR0.later hW)
    have HB0 : Hid (BlkT w (w.alloc (.cells [.slice tp tl tc, .slice rp nr rc].toArray 25)) [.slice tp tl tc, .slice rp nr rc] 25) := BlkT.start w _ _
    have hst : (0 : Int) < ((n + 1 : Nat) : Int) := by omega
    have hsb : ((n + 1 : Nat) : Int) - 1 = (n : Int) := by omega
    have hsw : IntKind.i64.wrap (n : Int) = (n : Int) := by rw [IntKind.wrap_i64]; omega
    obtain ⟨N1, hN1⟩ : ∃ N1 : Int, ((n + 1 : Nat) : Int) = N1 := ⟨_, rfl⟩
    rw [hN1] at hst hsb ⊢
    clear hR hR0 hat hnr ih hN1 hn9
    go_enter Tryz.func37, Tryz.ntmps37
    go_wp2_with fail
    go_loopw [9, 10] (fun i _ wr => ∃ k : Nat, k ≤ nr ∧ i = .int .i64 (k : Nat) ∧ (∀ (j : Nat) (hj : j < rs.length), j < k → (!(emp rs[j].e.ty) && (spk rs[j].w rs[j].t rs[j].m nm && (seq rs[j].e.ty to || cmo rs to n rs[j].e.ty))) = false) ∧ BlkT w wr [.slice tp tl tc, .slice rp nr rc] 25) (fun i _ _ => nr + 1 - (intOf i).toNat)
    case atStart => exact ⟨0, by omega, rfl, fun j hj h => by omega, HB0.out⟩
    case round =>
      obtain ⟨k, hk, rfl, hf, hTr⟩ := hrel
      have HF := hid hf
      have HT : Hid (BlkT w wr [.slice tp tl tc, .slice rp nr rc] 25) := hTr
      have a1 : wr.cell? ⟨w.heap.size, 1, none⟩ = some (.slice rp nr rc) := hTr.c 1
      clear hf
      by_cases hlt : k < nr
      · have hkc : k < rs.length := by have := HN.out; omega
        obtain ⟨g, off, hp, hrd⟩ := HAT.out (by omega)
        have HQ := hid hp
        rw [hp] at a1
        obtain ⟨us, r1, o1⟩ := hrd wr hTr.bel k hkc
        obtain ⟨v1, v2, v3, v4, v5, z1, g1, g2, g3, g4, g5⟩ := rdR o1
        clear o1
        subst z1
        have HNX : (!(emp rs[k].e.ty) && (spk rs[k].w rs[k].t rs[k].m nm && (seq rs[k].e.ty to || cmo rs to n rs[k].e.ty))) = false → Hid (∀ (j : Nat) (hj : j < rs.length), j < k + 1 → (!(emp rs[j].e.ty) && (spk rs[j].w rs[j].t rs[j].m nm && (seq rs[j].e.ty to || cmo rs to n rs[j].e.ty))) = false) := fun hq j hj h => by
          by_cases c : j = k
          · subst c; exact hq
          · exact HF.out j hj (by omega)
        have HHT : (!(emp rs[k].e.ty) && (spk rs[k].w rs[k].t rs[k].m nm && (seq rs[k].e.ty to || cmo rs to n rs[k].e.ty))) = true → Hid (cmo rs to (n + 1) nm = true) := fun hq => by
          show cmo rs to (n + 1) nm = true
          rw [cmo]
          exact any_some (l := rs) (q := fun x : Rl => !(emp x.e.ty) && (spk x.w x.t x.m nm && (seq x.e.ty to || cmo rs to n x.e.ty))) hkc hq
        obtain ⟨q4, j4, e4, s4a, s4b⟩ := rd_row lenK g4
        obtain ⟨q5, j5, e5, s5a, s5b⟩ := rd_row lenO g5
        have hspk := fun W (hW : Below wr.heap.size wr W) => speaksOf_any rs[k].w rs[k].t rs[k].m rs[k].n rs[k].e.ty nm v1 v2 v3 q4 q5 rs[k].k.length rs[k].e.v.length j4 j5 W (g1.later hW) (g2.later hW) (g3.later hW)
        obtain ⟨q1, j1, e1, s1a, s1b⟩ := rd_row lenP g1
        obtain ⟨q2, j2, e2, s2a, s2b⟩ := rd_row lenP g2
        obtain ⟨q3, j3, e3, s3a, s3b⟩ := rd_row lenM g3
        subst e1 e2 e3 e4 e5
        obtain ⟨x, hx⟩ : ∃ x, rs[k] = x := ⟨_, rfl⟩
        rw [hx] at r1 HNX HHT hspk
        obtain ⟨xn, xw, xs, xm, xk, ⟨xt, xv⟩⟩ := x
        simp only at r1 HNX HHT hspk
        have hic := HIH.out xt
        obtain ⟨l1, hl1⟩ : ∃ l, xw.length = l := ⟨_, rfl⟩
        obtain ⟨l2, hl2⟩ : ∃ l, xs.length = l := ⟨_, rfl⟩
        obtain ⟨l3, hl3⟩ : ∃ l, xm.length = l := ⟨_, rfl⟩
        obtain ⟨l4, hl4⟩ : ∃ l, xk.length = l := ⟨_, rfl⟩
        obtain ⟨l5, hl5⟩ : ∃ l, xv.length = l := ⟨_, rfl⟩
        rw [hl1, hl2, hl3, hl4, hl5] at hspk
        rw [hl1, hl2, hl3, hl4, hl5] at r1
        have n0 := r1 0 _ rfl
        have n1 := r1 1 _ rfl
        have n2 := r1 2 _ rfl
        have n3 := r1 3 _ rfl
        have n4 := r1 4 _ rfl
        have n5 := r1 5 _ rfl
        have n6 := r1 6 _ rfl
        simp only [Nat.add_zero] at n0
        have HX : Hid (BlkT wr (wr.alloc (.cells [.string xn, (.slice q1 l1 j1), (.slice q2 l2 j2), (.slice q3 l3 j3), (.slice q4 l4 j4), .string xt, (.slice q5 l5 j5)].toArray 49)) [.string xn, (.slice q1 l1 j1), (.slice q2 l2 j2), (.slice q3 l3 j3), (.slice q4 l4 j4), .string xt, (.slice q5 l5 j5)] 49) := BlkT.start wr _ _
        rw [hp] at hic
        have i1 : (0 : Int) ≤ (k : Int) := by omega
        have i2 : (k : Int) < (nr : Int) := by omega
        clear s1a s1b s2a s2b s3a s3b s4a s4b s5a s5b g1 g2 g3 g4 g5 r1 hx hrd hTr hkc hp hl1 hl2 hl3 hl4 hl5 HF HB0
        cases hem : emp xt
        · obtain ⟨f1, f2⟩ := emp_f hem
          cases hsp : spk xw xs xm nm
          · rw [hsp] at hspk
            have HSP := hid hspk
            have HNY := HNX (by rw [hsp]; simp)
            clear HNX hspk hem hsp
            go_wp2_with (first
              | (go_at_call 77; refine (HSP.out _ HX.out.bel).mono ?_; rintro e w5 ⟨rfl, hb_⟩; have HX5 : Hid (BlkT wr w5 [.string xn, (.slice q1 l1 j1), (.slice q2 l2 j2), (.slice q3 l3 j3), (.slice q4 l4 j4), .string xt, (.slice q5 l5 j5)] 49) := HX.out.next hb_; have HT5 : Hid (BlkT w w5 [.slice tp tl tc, .slice rp nr rc] 25) := HT.out.next HX5.out.bel; have x5 : w5.cell? ⟨wr.heap.size, 5, none⟩ = some (.string xt) := HX5.out.c 5; have y0 : w5.cell? ⟨w.heap.size, 0, none⟩ = some (.slice tp tl tc) := HT5.out.c 0; have y1 : w5.cell? ⟨w.heap.size, 1, none⟩ = some (.slice rp nr rc) := HT5.out.c 1; rw [HQ.out] at y1; clear hb_))
            go_roundw
            case rel => exact ⟨k + 1, by omega, by go_num, HNY.out, HT5.out⟩
            case measure => simp [intOf]; omega
          · rw [hsp] at hspk
            have HSP := hid hspk
            cases hsq : seq xt to
            · have hq2 : (xt.toList == to.toList) = false := hsq
              cases hco : cmo rs to n xt
              · rw [hco] at hic
                have HIC := hid hic
                have HNY := HNX (by rw [hsq, hco]; simp)
                clear HNX hspk hem hsp hsq hco hic
                go_wp2_with (first
                  | (go_at_call 37; refine (HIC.out _ HT5.out.bel).mono ?_; rintro e w6 ⟨rfl, hb_⟩; have HT6 : Hid (BlkT w w6 [.slice tp tl tc, .slice rp nr rc] 25) := HT5.out.next hb_; clear hb_)
                  | (go_at_call 77; refine (HSP.out _ HX.out.bel).mono ?_; rintro e w5 ⟨rfl, hb_⟩; have HX5 : Hid (BlkT wr w5 [.string xn, (.slice q1 l1 j1), (.slice q2 l2 j2), (.slice q3 l3 j3), (.slice q4 l4 j4), .string xt, (.slice q5 l5 j5)] 49) := HX.out.next hb_; have HT5 : Hid (BlkT w w5 [.slice tp tl tc, .slice rp nr rc] 25) := HT.out.next HX5.out.bel; have x5 : w5.cell? ⟨wr.heap.size, 5, none⟩ = some (.string xt) := HX5.out.c 5; have y0 : w5.cell? ⟨w.heap.size, 0, none⟩ = some (.slice tp tl tc) := HT5.out.c 0; have y1 : w5.cell? ⟨w.heap.size, 1, none⟩ = some (.slice rp nr rc) := HT5.out.c 1; rw [HQ.out] at y1; clear hb_))
                go_roundw
                case rel => exact ⟨k + 1, by omega, by go_num, HNY.out, HT6.out⟩
                case measure => simp [intOf]; omega
              · rw [hco] at hic
                have HIC := hid hic
                have HR0 := HHT (by rw [hem, hsp, hco]; simp)
                clear HNX HHT hspk hem hsp hsq hco hic
                go_wp2_with (first
                  | (go_at_call 37; refine (HIC.out _ HT5.out.bel).mono ?_; rintro e w6 ⟨rfl, hb_⟩; have HT6 : Hid (BlkT w w6 [.slice tp tl tc, .slice rp nr rc] 25) := HT5.out.next hb_; clear hb_)
                  | (go_at_call 77; refine (HSP.out _ HX.out.bel).mono ?_; rintro e w5 ⟨rfl, hb_⟩; have HX5 : Hid (BlkT wr w5 [.string xn, (.slice q1 l1 j1), (.slice q2 l2 j2), (.slice q3 l3 j3), (.slice q4 l4 j4), .string xt, (.slice q5 l5 j5)] 49) := HX.out.next hb_; have HT5 : Hid (BlkT w w5 [.slice tp tl tc, .slice rp nr rc] 25) := HT.out.next HX5.out.bel; have x5 : w5.cell? ⟨wr.heap.size, 5, none⟩ = some (.string xt) := HX5.out.c 5; have y0 : w5.cell? ⟨w.heap.size, 0, none⟩ = some (.slice tp tl tc) := HT5.out.c 0; have y1 : w5.cell? ⟨w.heap.size, 1, none⟩ = some (.slice rp nr rc) := HT5.out.c 1; rw [HQ.out] at y1; clear hb_))
                go_ret
                rw [HR0.out]
                exact ⟨rfl, HT6.out.bel⟩
            · have hq2 : (xt.toList == to.toList) = true := hsq
              have HR0 := HHT (by rw [hem, hsp, hsq]; simp)
              clear HNX HHT hspk hem hsp hsq hic
              go_wp2_with (first
                | (go_at_call 77; refine (HSP.out _ HX.out.bel).mono ?_; rintro e w5 ⟨rfl, hb_⟩; have HX5 : Hid (BlkT wr w5 [.string xn, (.slice q1 l1 j1), (.slice q2 l2 j2), (.slice q3 l3 j3), (.slice q4 l4 j4), .string xt, (.slice q5 l5 j5)] 49) := HX.out.next hb_; have HT5 : Hid (BlkT w w5 [.slice tp tl tc, .slice rp nr rc] 25) := HT.out.next HX5.out.bel; have x5 : w5.cell? ⟨wr.heap.size, 5, none⟩ = some (.string xt) := HX5.out.c 5; have y0 : w5.cell? ⟨w.heap.size, 0, none⟩ = some (.slice tp tl tc) := HT5.out.c 0; have y1 : w5.cell? ⟨w.heap.size, 1, none⟩ = some (.slice rp nr rc) := HT5.out.c 1; rw [HQ.out] at y1; clear hb_))
              go_ret
              rw [HR0.out]
              exact ⟨rfl, HT5.out.bel⟩
        · have f1 := emp_t hem
          have HNY := HNX (by rw [hem]; simp)
          clear HNX hspk hem
          go_wp2_with fail
          go_roundw
          case rel => exact ⟨k + 1, by omega, by go_num, HNY.out, (HT.out.next HX.out.bel)⟩
          case measure => simp [intOf]; omega
      · obtain rfl : nr = k := by omega
        have HA : Hid (cmo rs to (n + 1) nm = false) := by
          show cmo rs to (n + 1) nm = false
          rw [cmo]
          exact any_none (l := rs) (q := fun x : Rl => !(emp x.e.ty) && (spk x.w x.t x.m nm && (seq x.e.ty to || cmo rs to n x.e.ty))) fun j hj => HF.out j hj (by have := HN.out; omega)
        clear hTr HF
        go_wp2_with fail
        go_ret
        rw [HA.out]
        exact ⟨rfl, HT.out.bel⟩
end Go.Proofs.YthndlfdbmljkhaaGreatDoor.Chk
