/-
  An operation's bytes, by the document.
-/
import Derived.Test.YtepgkemnpcadiaaWk
import Derived.Test.YtepgkemnpcadiaaWi
namespace Go.Proofs.Ytepgkemnpcadiaa
open Go.ChangeShapes Go.WideShapes Go.ChangeAt Go.RowKit Go.Maps
set_option linter.unusedVariables false
set_option linter.unusedSimpArgs false
set_option maxRecDepth 20000
set_option maxHeartbeats 16000000 in
theorem opBytes_any (o : Opn) (v : Value) (w : World) (hv : ValsAt w v o.l) :
    Calls Try.prog 53 #[opv o v] w fun e w' => ∃ v', e = .returned (.tuple #[v', .int .i64 (ochk o)]) ∧ BO w' w.heap.size v' (obz o) ∧ Below w.heap.size w w' := by
  obtain ⟨z, hz⟩ : ∃ z, ochk o = z := ⟨_, rfl⟩
  obtain ⟨y, hy⟩ : ∃ y, obz o = y := ⟨_, rfl⟩
  have HC := hid (fun W h => wfault_any o v W h)
  have HV := hid hv
  obtain ⟨p, cap, hvs, hmax⟩ := hv.shape'
  subst hvs
  have HY : Hid (y = if z = 0 then obt o else []) := by rw [← hy, ← hz]; rfl
  rw [hz] at HC ⊢
  rw [hy]
  clear hy hv
  by_cases hz0 : z = 0
  · subst hz0
    have hok := ok_cases hz
    have HY2 : Hid (y = obt o) := by rw [HY.out]; rfl
    clear HY hz
    obtain ⟨k, s, a, b, l, d, c⟩ := o
    unfold opv at *
    simp only at *
    rcases hok with ⟨hk, hd1, hd2, -⟩ | ⟨hk, hs, hl4, hvc, hn, -⟩ | ⟨hk, hn, -⟩
    · subst hk
      obtain ⟨dn, rfl⟩ : ∃ dn : Nat, d = dn := ⟨d.toNat, by omega⟩
      have HDN : Hid (dn < 9223372036854775808) := by show _ < _; omega
      have HDL := hid (lng_10 HDN.out)
      have HYY : Hid (y = UInt8.ofNat 2 :: (lng dn ++ [flg c])) := by rw [HY2.out]; exact obt_2 _ _ _ _ _ _
      generalize l.length = n at *
      clear hd1 hd2 hmax HY2
      go_enter Try.func53, Try.ntmps53
      go_wp2_with fail
      have hc := HC.out (w.alloc (.cells #[.int .i64 2, .string s, .int .i64 a, .int .i64 b, .slice p n cap, .int .i64 (dn : Int), .bool c] 26)) (HV.out.below ((Below.refl _ w).alloc (Nat.le_refl _) _))
      refine hc.mono ?_
      rintro e w0 ⟨rfl, hb1⟩
      clear hc
      have HB0 := hid (below_trans ((Below.refl _ w).alloc (Nat.le_refl _) (.cells #[.int .i64 2, .string s, .int .i64 a, .int .i64 b, .slice p n cap, .int .i64 (dn : Int), .bool c] 26)) hb1 (by simp))
      have HOP0 := hid ((OpAt.new w ⟨2, s, a, b, l, (dn : Int), c⟩ (.slice p n cap) 26).below hb1 (by simp))
      clear hb1
      have hop := HOP0.out
      obtain ⟨-, c0, c1, c2, c3, c4, c5, c6⟩ := hop
      simp only at c0 c1 c2 c3 c5 c6
      have HR1 : Hid (BO (w0.alloc (.cells #[.int .u8 2] 5)) (w.heap.size + 1) (.slice (some ⟨w0.heap.size, 0, none⟩) 1 1) [UInt8.ofNat 2]) := BO.one w0 _ _ _ (by rfl) HOP0.out.lt
      have HB1 : Hid (Below w.heap.size w (w0.alloc (.cells #[.int .u8 2] 5))) := HB0.out.alloc HB0.out.size _
      have HOP1 := hid (HOP0.out.below ((Below.refl w0.heap.size w0).alloc (Nat.le_refl _) (.cells #[.int .u8 2] 5)) HOP0.out.lt)
      have hop := HOP1.out
      obtain ⟨-, d0, d1, d2, d3, d4, d5, d6⟩ := hop
      simp only at d0 d1 d2 d3 d5 d6
      go_wp2_with fail
      clear c0 c1 c2 c3 c4 c5 c6
      clear d0 d1 d2 d3 d4 d5 d6
      refine (sevens_any dn _ HDN.out).mono ?_
      rintro e wa1 ⟨va1, rfl, ho, hb⟩
      obtain ⟨pa1, na1, ma1, hvv⟩ := ho.shape3
      subst hvv
      have HOa1 := hid ho.br
      have HBa1 := hid (below_trans HB1.out hb HB1.out.size)
      have HRa1 := hid (HR1.out.below hb)
      have HOPa1 := hid (HOP1.out.below hb HOP1.out.lt)
      clear ho hb
      have hop := HOPa1.out
      obtain ⟨-, c0, c1, c2, c3, c4, c5, c6⟩ := hop
      simp only at c0 c1 c2 c3 c5 c6
      go_wp2_with fail
      clear c0 c1 c2 c3 c4 c5 c6
      refine (joined_any _ _ _ _ _ HRa1.out.br HOa1.out (by simp) (by have := HDL.out; omega)).mono ?_
      rintro e w2 ⟨v2, rfl, ho, hb⟩
      obtain ⟨p2, n2, m2, hvv⟩ := ho.shape3
      subst hvv
      have HR2 := hid (ho.weak HOPa1.out.lt)
      have HB2 := hid (below_trans HBa1.out hb HBa1.out.size)
      have HOP2 := hid (HOPa1.out.below hb HOPa1.out.lt)
      clear ho hb
      have hop := HOP2.out
      obtain ⟨-, c0, c1, c2, c3, c4, c5, c6⟩ := hop
      simp only at c0 c1 c2 c3 c5 c6
      have HL2 : Hid (([UInt8.ofNat 2] ++ lng dn).length < 140000000000000) := by show _ < _; have := HDL.out; simp; omega
      cases c
      · go_wp2_with (at_builtin; go_loud (refine wp_push (by rfl) _ _ (by rfl) _ (w.heap.size + 1) _ _ (by rfl) HR2.out (by rfl) (by first | rfl | simp) 0 _ (by rfl) HL2.out HOP2.out.lt ?_); intro v3 w3 hown hbl; have HR3 := hid hown; have HG3 := hid hbl; obtain ⟨pv3, nv3, cv3, hvv⟩ := hown.shape3; subst hvv; clear hown hbl)
        go_ret2
        exact ⟨_, rfl, by rw [HYY.out]; have := HR3.out.weak (Nat.le_succ _); simpa [flg] using this, below_trans HB2.out (HG3.out.bel HR2.out HOP2.out.lt) (Nat.le_succ _)⟩
      · go_wp2_with (at_builtin; go_loud (refine wp_push (by rfl) _ _ (by rfl) _ (w.heap.size + 1) _ _ (by rfl) HR2.out (by rfl) (by first | rfl | simp) 1 _ (by rfl) HL2.out HOP2.out.lt ?_); intro v3 w3 hown hbl; have HR3 := hid hown; have HG3 := hid hbl; obtain ⟨pv3, nv3, cv3, hvv⟩ := hown.shape3; subst hvv; clear hown hbl)
        go_ret2
        exact ⟨_, rfl, by rw [HYY.out]; have := HR3.out.weak (Nat.le_succ _); simpa [flg] using this, below_trans HB2.out (HG3.out.bel HR2.out HOP2.out.lt) (Nat.le_succ _)⟩
    · subst hk
      obtain ⟨ha1, ha2, hb1, hb2, -⟩ := schk_zero hs
      have HSZ := hid (nchk_zero hn)
      obtain ⟨an, rfl⟩ : ∃ an : Nat, a = an := ⟨a.toNat, by omega⟩
      obtain ⟨bn, rfl⟩ : ∃ bn : Nat, b = bn := ⟨b.toNat, by omega⟩
      have HAN : Hid (an ≤ 1099511627776) := by show _ ≤ _; omega
      have HBN : Hid (bn ≤ 1099511627776) := by show _ ≤ _; omega
      have HA10 := hid (lng_10 (n := an) (by omega))
      have HB10 := hid (lng_10 (n := bn) (by omega))
      have HVC := hid hvc
      have HYY : Hid (y = UInt8.ofNat 1 :: (txb s ++ (evt an bn l ++ l.flatMap evb))) := by rw [HY2.out]; exact obt_1 _ _ _ _ _ _
      obtain ⟨n, hnl⟩ : ∃ n, l.length = n := ⟨_, rfl⟩
      have HNL := hid hnl
      rw [hnl] at HC hl4 ⊢
      have HV : Hid (ValsAt w (.slice p n cap) l) := by rw [← hnl]; exact HV.out
      clear ha1 ha2 hb1 hb2 hmax hs hvc hn HY2 hnl
      go_enter Try.func53, Try.ntmps53
      go_wp2_with fail
      have hc := HC.out (w.alloc (.cells #[.int .i64 1, .string s, .int .i64 (an : Int), .int .i64 (bn : Int), .slice p n cap, .int .i64 d, .bool c] 26)) (HV.out.below ((Below.refl _ w).alloc (Nat.le_refl _) _))
      refine hc.mono ?_
      rintro e w0 ⟨rfl, hb1⟩
      clear hc
      have HB0 := hid (below_trans ((Below.refl _ w).alloc (Nat.le_refl _) (.cells #[.int .i64 1, .string s, .int .i64 (an : Int), .int .i64 (bn : Int), .slice p n cap, .int .i64 d, .bool c] 26)) hb1 (by simp))
      have HOP0 := hid ((OpAt.new w ⟨1, s, (an : Int), (bn : Int), l, d, c⟩ (.slice p n cap) 26).below hb1 (by simp))
      clear hb1
      have hop := HOP0.out
      obtain ⟨-, c0, c1, c2, c3, c4, c5, c6⟩ := hop
      simp only at c0 c1 c2 c3 c5 c6
      have HR1 : Hid (BO (w0.alloc (.cells #[.int .u8 1] 5)) (w.heap.size + 1) (.slice (some ⟨w0.heap.size, 0, none⟩) 1 1) [UInt8.ofNat 1]) := BO.one w0 _ _ _ (by rfl) HOP0.out.lt
      have HB1 : Hid (Below w.heap.size w (w0.alloc (.cells #[.int .u8 1] 5))) := HB0.out.alloc HB0.out.size _
      have HOP1 := hid (HOP0.out.below ((Below.refl w0.heap.size w0).alloc (Nat.le_refl _) (.cells #[.int .u8 1] 5)) HOP0.out.lt)
      have hop := HOP1.out
      obtain ⟨-, d0, d1, d2, d3, d4, d5, d6⟩ := hop
      simp only at d0 d1 d2 d3 d5 d6
      go_wp2_with fail
      clear c0 c1 c2 c3 c4 c5 c6
      clear d0 d1 d2 d3 d4 d5 d6
      refine (textBytes_any s _ (by have := HSZ.out; omega)).mono ?_
      rintro e wa1 ⟨va1, rfl, ho, hb⟩
      obtain ⟨pa1, na1, ma1, hvv⟩ := ho.shape3
      subst hvv
      have HOa1 := hid ho.br
      have HBa1 := hid (below_trans HB1.out hb HB1.out.size)
      have HRa1 := hid (HR1.out.below hb)
      have HOPa1 := hid (HOP1.out.below hb HOP1.out.lt)
      clear ho hb
      have hop := HOPa1.out
      obtain ⟨-, c0, c1, c2, c3, c4, c5, c6⟩ := hop
      simp only at c0 c1 c2 c3 c5 c6
      go_wp2_with fail
      clear c0 c1 c2 c3 c4 c5 c6
      refine (joined_any _ _ _ _ _ HRa1.out.br HOa1.out (by simp) (by have := HSZ.out; simp [txb]; omega)).mono ?_
      rintro e w2 ⟨v2, rfl, ho, hb⟩
      obtain ⟨p2, n2, m2, hvv⟩ := ho.shape3
      subst hvv
      have HR2 := hid (ho.weak HOPa1.out.lt)
      have HB2 := hid (below_trans HBa1.out hb HBa1.out.size)
      have HOP2 := hid (HOPa1.out.below hb HOPa1.out.lt)
      clear ho hb
      have hop := HOP2.out
      obtain ⟨-, c0, c1, c2, c3, c4, c5, c6⟩ := hop
      simp only at c0 c1 c2 c3 c5 c6
      go_wp2_with fail
      clear c0 c1 c2 c3 c4 c5 c6
      refine (sevens_any an _ (by have := HAN.out; omega)).mono ?_
      rintro e wa2 ⟨va2, rfl, ho, hb⟩
      obtain ⟨pa2, na2, ma2, hvv⟩ := ho.shape3
      subst hvv
      have HOa2 := hid ho.br
      have HBa2 := hid (below_trans HB2.out hb HB2.out.size)
      have HRa2 := hid (HR2.out.below hb)
      have HOPa2 := hid (HOP2.out.below hb HOP2.out.lt)
      clear ho hb
      have hop := HOPa2.out
      obtain ⟨-, c0, c1, c2, c3, c4, c5, c6⟩ := hop
      simp only at c0 c1 c2 c3 c5 c6
      go_wp2_with fail
      clear c0 c1 c2 c3 c4 c5 c6
      refine (joined_any _ _ _ _ _ HRa2.out.br HOa2.out (by have := HSZ.out; simp [txb]; omega) (by have := HA10.out; omega)).mono ?_
      rintro e w3 ⟨v3, rfl, ho, hb⟩
      obtain ⟨p3, n3, m3, hvv⟩ := ho.shape3
      subst hvv
      have HR3 := hid (ho.weak HOPa2.out.lt)
      have HB3 := hid (below_trans HBa2.out hb HBa2.out.size)
      have HOP3 := hid (HOPa2.out.below hb HOPa2.out.lt)
      clear ho hb
      have hop := HOP3.out
      obtain ⟨-, c0, c1, c2, c3, c4, c5, c6⟩ := hop
      simp only at c0 c1 c2 c3 c5 c6
      go_wp2_with fail
      clear c0 c1 c2 c3 c4 c5 c6
      refine (sevens_any bn _ (by have := HBN.out; omega)).mono ?_
      rintro e wa3 ⟨va3, rfl, ho, hb⟩
      obtain ⟨pa3, na3, ma3, hvv⟩ := ho.shape3
      subst hvv
      have HOa3 := hid ho.br
      have HBa3 := hid (below_trans HB3.out hb HB3.out.size)
      have HRa3 := hid (HR3.out.below hb)
      have HOPa3 := hid (HOP3.out.below hb HOP3.out.lt)
      clear ho hb
      have hop := HOPa3.out
      obtain ⟨-, c0, c1, c2, c3, c4, c5, c6⟩ := hop
      simp only at c0 c1 c2 c3 c5 c6
      go_wp2_with fail
      clear c0 c1 c2 c3 c4 c5 c6
      refine (joined_any _ _ _ _ _ HRa3.out.br HOa3.out (by have := HSZ.out; have := HA10.out; simp [txb]; omega) (by have := HB10.out; omega)).mono ?_
      rintro e w4 ⟨v4, rfl, ho, hb⟩
      obtain ⟨p4, n4, m4, hvv⟩ := ho.shape3
      subst hvv
      have HR4 := hid (ho.weak HOPa3.out.lt)
      have HB4 := hid (below_trans HBa3.out hb HBa3.out.size)
      have HOP4 := hid (HOPa3.out.below hb HOPa3.out.lt)
      clear ho hb
      have hop := HOP4.out
      obtain ⟨-, c0, c1, c2, c3, c4, c5, c6⟩ := hop
      simp only at c0 c1 c2 c3 c5 c6
      have HL4 : Hid (([UInt8.ofNat 1] ++ txb s ++ lng an ++ lng bn).length < 100000) := by show _ < _; have := HSZ.out; have := HA10.out; have := HB10.out; simp [txb]; omega
      have hw := w8 n (by omega)
      have HU := hid (u8_of n (by omega))
      go_wp2_with (at_builtin; go_loud (refine wp_push (by rfl) _ _ (by rfl) _ (w.heap.size + 1) _ _ (by rfl) HR4.out (by rfl) (by first | rfl | simp) (UInt8.ofNat n) _ HU.out (by have := HL4.out; omega) HOP4.out.lt ?_); intro v5 w5 hown hbl; have HR5 := hid hown; have HG5 := hid hbl; obtain ⟨pv5, nv5, cv5, hvv⟩ := hown.shape3; subst hvv; clear hown hbl; have HB5 := hid (below_trans HB4.out (HG5.out.bel HR4.out HOP4.out.lt) (Nat.le_succ _)); have HOP5 := hid (HOP4.out.below (HG5.out.bel HR4.out HOP4.out.lt) (Nat.lt_succ_self _)); clear c0 c1 c2 c3 c4 c5 c6; have hop := HOP5.out; obtain ⟨-, c0, c1, c2, c3, c4, c5, c6⟩ := hop; simp only at c0 c1 c2 c3 c5 c6)
      clear c0 c1 c2 c3 c4 c5 c6
      have hn4 : n ≤ 4 := hl4
      have hi0 : (0 : Int) ≤ n := by omega
      go_loopw [5, 6] (fun v i wr => ∃ k : Nat, k ≤ n ∧ i = .int .i64 (k : Nat) ∧ BO wr (w.heap.size + 1) v ([UInt8.ofNat 1] ++ txb s ++ lng an ++ lng bn ++ [UInt8.ofNat n] ++ evs l k) ∧ Below w.heap.size w wr ∧ OpAt wr w.heap.size ⟨1, s, an, bn, l, d, c⟩ (.slice p n cap)) (fun _ i _ => n + 1 - (intOf i).toNat)
      case atStart => exact ⟨0, by omega, rfl, by have := HR5.out; simpa [evs] using this, HB5.out, HOP5.out⟩
      case round =>
        obtain ⟨k, hk, rfl, hrow, hb, hop⟩ := hrel
        obtain ⟨p7, n7, m7, hsh⟩ := hrow.shape3
        subst hsh
        have HR7 := hid hrow
        have HB7 := hid hb
        have HOP7 := hid hop
        obtain ⟨-, c0, c1, c2, c3, c4, c5, c6⟩ := hop
        simp only at c0 c1 c2 c3 c5 c6
        by_cases hlt : k < n
        · have hkd : k < l.length := by have := HNL.out; omega
          obtain ⟨p8, cap8, hsh8, hcap8, hmax8, hp8⟩ := HV.out
          obtain ⟨g, off, hg, hc⟩ := hp8 (by omega)
          obtain ⟨hgs, e0, e1, e2⟩ := hc k hkd
          rw [HNL.out] at hsh8
          cases hsh8
          subst hg
          have HVK : Hid (vchk l[k] = 0) := HVC.out _ (List.getElem_mem hkd)
          have HSU := hid (evs_succ hkd)
          obtain ⟨q, hq⟩ : ∃ q, l[k] = q := ⟨_, rfl⟩
          rw [hq] at e0 e1 e2 HVK HSU
          have b0 : wr.cell? ⟨g, off + k * 3, none⟩ = some (.int .i64 q.k) := (hb.cell (p := ⟨g, off + k * 3, none⟩) hgs).trans e0
          have b1 : wr.cell? ⟨g, off + k * 3 + 1, none⟩ = some (.int .i64 q.n) := (hb.cell (p := ⟨g, off + k * 3 + 1, none⟩) hgs).trans e1
          have b2 : wr.cell? ⟨g, off + k * 3 + 2, none⟩ = some (.string q.s) := (hb.cell (p := ⟨g, off + k * 3 + 2, none⟩) hgs).trans e2
          have i1 : (0 : Int) ≤ (k : Int) := by omega
          have i2 : (k : Int) < (n : Int) := by omega
          have HLK : Hid (([UInt8.ofNat 1] ++ txb s ++ lng an ++ lng bn ++ [UInt8.ofNat n] ++ evs l k).length < 1000000) := by
            have h6 := HL4.out
            have h7 := evs_len HVC.out k
            show _ < _
            rw [List.length_append, List.length_append]
            simp only [List.length_singleton]
            omega
          obtain ⟨L, hL⟩ : ∃ L, [UInt8.ofNat 1] ++ txb s ++ lng an ++ lng bn ++ [UInt8.ofNat n] ++ evs l k = L := ⟨_, rfl⟩
          have HLL := hid hL
          rw [hL] at HR7 HLK
          clear hL hrow hkd hcap8 hmax8 hp8 hc hq hgs e0 e1 e2 hb
          obtain ⟨kk, kn, ks⟩ := q
          simp only at b0 b1 b2
          have HKS := hid (vchk_zero HVK.out)
          have HBX : Hid (BO (wr.alloc (.cells #[.int .i64 kk, .int .i64 kn, .string ks] 79)) (w.heap.size + 1) (.slice p7 n7 m7) L) := HR7.out.below ((Below.refl _ wr).alloc (Nat.le_refl _) _)
          have HNE := hid (HR7.out.ne (Nat.le_refl wr.heap.size))
          have HBA : Hid (Below w.heap.size w (wr.alloc (.cells #[.int .i64 kk, .int .i64 kn, .string ks] 79))) := HB7.out.alloc HB7.out.size _
          have HOA := hid (HOP7.out.below ((Below.refl wr.heap.size wr).alloc (Nat.le_refl _) (.cells #[.int .i64 kk, .int .i64 kn, .string ks] 79)) HOP7.out.lt)
          have HKB : Hid (-1125899906842624 ≤ kn ∧ kn ≤ 1125899906842624 ∧ ks.size ≤ 20) := ⟨HKS.out.2.1, HKS.out.2.2.1, HKS.out.2.2.2.1⟩
          rcases (HKS.out.1 : kk = 1 ∨ kk = 2) with hkk | hkk
          · subst hkk
            go_wp2_with (at_builtin; go_loud (refine wp_push (by rfl) _ _ (by rfl) (wr.alloc (.cells #[.int .i64 1, .int .i64 kn, .string ks] 79)) (w.heap.size + 1) _ L (by rfl) HBX.out (by rfl) (by first | rfl | simp) (UInt8.ofNat 1) _ (by rfl) (by have := HLK.out; omega) HOA.out.lt ?_); intro v9 w9 hown hbl; have HR9 := hid hown; have HG9 := hid hbl; obtain ⟨pv9, nv9, cv9, hvv⟩ := hown.shape3; subst hvv; clear hown hbl; have f0 := HG9.out.cell (cell_new (X := wr) (cs := #[.int .i64 1, .int .i64 kn, .string ks]) (t := 79) (j := 0) rfl rfl) HNE.out; have f1 := HG9.out.cell (cell_new (X := wr) (cs := #[.int .i64 1, .int .i64 kn, .string ks]) (t := 79) (j := 1) rfl rfl) HNE.out; have f2 := HG9.out.cell (cell_new (X := wr) (cs := #[.int .i64 1, .int .i64 kn, .string ks]) (t := 79) (j := 2) rfl rfl) HNE.out; have HB9 := hid (below_trans HBA.out (HG9.out.bel HBX.out HOA.out.lt) (Nat.le_succ _)); have HOP9 := hid (HOA.out.below (HG9.out.bel HBX.out HOA.out.lt) (Nat.lt_succ_self _)); clear c0 c1 c2 c3 c4 c5 c6; have hop := HOP9.out; obtain ⟨-, c0, c1, c2, c3, c4, c5, c6⟩ := hop; simp only at c0 c1 c2 c3 c5 c6)
            refine (folded_any kn _ (by have := HKB.out; omega) (by have := HKB.out; omega)).mono ?_
            rintro e w9a ⟨rfl, rfl⟩
            go_wp2_with fail
            clear f0 f1 f2
            have H10 := hid (lng_10 (fld_lt (z := kn) (by have := HKB.out; omega) (by have := HKB.out; omega)))
            clear c0 c1 c2 c3 c4 c5 c6
            refine (sevens_any (fld kn) _ (fld_lt (by have := HKB.out; omega) (by have := HKB.out; omega))).mono ?_
            rintro e wa9 ⟨va9, rfl, ho, hb⟩
            obtain ⟨pa9, na9, ma9, hvv⟩ := ho.shape3
            subst hvv
            have HOa9 := hid ho.br
            have HBa9 := hid (below_trans HB9.out hb HB9.out.size)
            have HRa9 := hid (HR9.out.below hb)
            have HOPa9 := hid (HOP9.out.below hb HOP9.out.lt)
            clear ho hb
            have hop := HOPa9.out
            obtain ⟨-, c0, c1, c2, c3, c4, c5, c6⟩ := hop
            simp only at c0 c1 c2 c3 c5 c6
            go_wp2_with fail
            clear c0 c1 c2 c3 c4 c5 c6
            refine (joined_any _ _ _ _ _ HRa9.out.br HOa9.out (by have := HLK.out; simp; omega) (by have := H10.out; omega)).mono ?_
            rintro e w10 ⟨v10, rfl, ho, hb⟩
            obtain ⟨p10, n10, m10, hvv⟩ := ho.shape3
            subst hvv
            have HR10 := hid (ho.weak HOPa9.out.lt)
            have HB10 := hid (below_trans HBa9.out hb HBa9.out.size)
            have HOP10 := hid (HOPa9.out.below hb HOPa9.out.lt)
            clear ho hb
            have hop := HOP10.out
            obtain ⟨-, c0, c1, c2, c3, c4, c5, c6⟩ := hop
            simp only at c0 c1 c2 c3 c5 c6
            go_wp2_with fail
            go_roundw
            case rel =>
              refine ⟨k + 1, by omega, by go_num, ?_, HB10.out, HOP10.out⟩
              have h9 := HR10.out
              rw [HSU.out, ← List.append_assoc, HLL.out]
              simpa [evb] using h9
            case measure => simp [intOf]; omega
          · subst hkk
            go_wp2_with (at_builtin; go_loud (refine wp_push (by rfl) _ _ (by rfl) (wr.alloc (.cells #[.int .i64 2, .int .i64 kn, .string ks] 79)) (w.heap.size + 1) _ L (by rfl) HBX.out (by rfl) (by first | rfl | simp) (UInt8.ofNat 2) _ (by rfl) (by have := HLK.out; omega) HOA.out.lt ?_); intro v9 w9 hown hbl; have HR9 := hid hown; have HG9 := hid hbl; obtain ⟨pv9, nv9, cv9, hvv⟩ := hown.shape3; subst hvv; clear hown hbl; have f0 := HG9.out.cell (cell_new (X := wr) (cs := #[.int .i64 2, .int .i64 kn, .string ks]) (t := 79) (j := 0) rfl rfl) HNE.out; have f1 := HG9.out.cell (cell_new (X := wr) (cs := #[.int .i64 2, .int .i64 kn, .string ks]) (t := 79) (j := 1) rfl rfl) HNE.out; have f2 := HG9.out.cell (cell_new (X := wr) (cs := #[.int .i64 2, .int .i64 kn, .string ks]) (t := 79) (j := 2) rfl rfl) HNE.out; have HB9 := hid (below_trans HBA.out (HG9.out.bel HBX.out HOA.out.lt) (Nat.le_succ _)); have HOP9 := hid (HOA.out.below (HG9.out.bel HBX.out HOA.out.lt) (Nat.lt_succ_self _)); clear c0 c1 c2 c3 c4 c5 c6; have hop := HOP9.out; obtain ⟨-, c0, c1, c2, c3, c4, c5, c6⟩ := hop; simp only at c0 c1 c2 c3 c5 c6)
            clear f0 f1 f2
            clear c0 c1 c2 c3 c4 c5 c6
            refine (textBytes_any ks _ (by have := HKB.out; omega)).mono ?_
            rintro e wa9 ⟨va9, rfl, ho, hb⟩
            obtain ⟨pa9, na9, ma9, hvv⟩ := ho.shape3
            subst hvv
            have HOa9 := hid ho.br
            have HBa9 := hid (below_trans HB9.out hb HB9.out.size)
            have HRa9 := hid (HR9.out.below hb)
            have HOPa9 := hid (HOP9.out.below hb HOP9.out.lt)
            clear ho hb
            have hop := HOPa9.out
            obtain ⟨-, c0, c1, c2, c3, c4, c5, c6⟩ := hop
            simp only at c0 c1 c2 c3 c5 c6
            go_wp2_with fail
            clear c0 c1 c2 c3 c4 c5 c6
            refine (joined_any _ _ _ _ _ HRa9.out.br HOa9.out (by have := HLK.out; simp; omega) (by have := HKB.out; simp [txb]; omega)).mono ?_
            rintro e w10 ⟨v10, rfl, ho, hb⟩
            obtain ⟨p10, n10, m10, hvv⟩ := ho.shape3
            subst hvv
            have HR10 := hid (ho.weak HOPa9.out.lt)
            have HB10 := hid (below_trans HBa9.out hb HBa9.out.size)
            have HOP10 := hid (HOPa9.out.below hb HOPa9.out.lt)
            clear ho hb
            have hop := HOP10.out
            obtain ⟨-, c0, c1, c2, c3, c4, c5, c6⟩ := hop
            simp only at c0 c1 c2 c3 c5 c6
            go_wp2_with fail
            go_roundw
            case rel =>
              refine ⟨k + 1, by omega, by go_num, ?_, HB10.out, HOP10.out⟩
              have h9 := HR10.out
              rw [HSU.out, ← List.append_assoc, HLL.out]
              simpa [evb] using h9
            case measure => simp [intOf]; omega
        · obtain rfl : k = n := by omega
          clear hrow hb
          go_wp2
          go_ret2
          refine ⟨_, rfl, ?_, HB7.out⟩
          have := HR7.out.weak (Nat.le_succ _)
          rw [← HNL.out, evs_all] at this
          rw [HYY.out]
          unfold evt
          simpa [List.append_assoc] using this
    · subst hk
      have HSZ := hid (nchk_zero hn)
      have HYY : Hid (y = UInt8.ofNat 3 :: txb s) := by rw [HY2.out]; exact obt_3 _ _ _ _ _ _
      generalize l.length = n at *
      clear hmax hn HY2
      go_enter Try.func53, Try.ntmps53
      go_wp2_with fail
      have hc := HC.out (w.alloc (.cells #[.int .i64 3, .string s, .int .i64 a, .int .i64 b, .slice p n cap, .int .i64 d, .bool c] 26)) (HV.out.below ((Below.refl _ w).alloc (Nat.le_refl _) _))
      refine hc.mono ?_
      rintro e w0 ⟨rfl, hb1⟩
      clear hc
      have HB0 := hid (below_trans ((Below.refl _ w).alloc (Nat.le_refl _) (.cells #[.int .i64 3, .string s, .int .i64 a, .int .i64 b, .slice p n cap, .int .i64 d, .bool c] 26)) hb1 (by simp))
      have HOP0 := hid ((OpAt.new w ⟨3, s, a, b, l, d, c⟩ (.slice p n cap) 26).below hb1 (by simp))
      clear hb1
      have hop := HOP0.out
      obtain ⟨-, c0, c1, c2, c3, c4, c5, c6⟩ := hop
      simp only at c0 c1 c2 c3 c5 c6
      have HR1 : Hid (BO (w0.alloc (.cells #[.int .u8 3] 5)) (w.heap.size + 1) (.slice (some ⟨w0.heap.size, 0, none⟩) 1 1) [UInt8.ofNat 3]) := BO.one w0 _ _ _ (by rfl) HOP0.out.lt
      have HB1 : Hid (Below w.heap.size w (w0.alloc (.cells #[.int .u8 3] 5))) := HB0.out.alloc HB0.out.size _
      have HOP1 := hid (HOP0.out.below ((Below.refl w0.heap.size w0).alloc (Nat.le_refl _) (.cells #[.int .u8 3] 5)) HOP0.out.lt)
      have hop := HOP1.out
      obtain ⟨-, d0, d1, d2, d3, d4, d5, d6⟩ := hop
      simp only at d0 d1 d2 d3 d5 d6
      go_wp2_with fail
      clear c0 c1 c2 c3 c4 c5 c6
      clear d0 d1 d2 d3 d4 d5 d6
      refine (textBytes_any s _ (by have := HSZ.out; omega)).mono ?_
      rintro e wa1 ⟨va1, rfl, ho, hb⟩
      obtain ⟨pa1, na1, ma1, hvv⟩ := ho.shape3
      subst hvv
      have HOa1 := hid ho.br
      have HBa1 := hid (below_trans HB1.out hb HB1.out.size)
      have HRa1 := hid (HR1.out.below hb)
      have HOPa1 := hid (HOP1.out.below hb HOP1.out.lt)
      clear ho hb
      have hop := HOPa1.out
      obtain ⟨-, c0, c1, c2, c3, c4, c5, c6⟩ := hop
      simp only at c0 c1 c2 c3 c5 c6
      go_wp2_with fail
      clear c0 c1 c2 c3 c4 c5 c6
      refine (joined_any _ _ _ _ _ HRa1.out.br HOa1.out (by simp) (by have := HSZ.out; simp [txb]; omega)).mono ?_
      rintro e w2 ⟨v2, rfl, ho, hb⟩
      obtain ⟨p2, n2, m2, hvv⟩ := ho.shape3
      subst hvv
      have HR2 := hid (ho.weak HOPa1.out.lt)
      have HB2 := hid (below_trans HBa1.out hb HBa1.out.size)
      have HOP2 := hid (HOPa1.out.below hb HOPa1.out.lt)
      clear ho hb
      have hop := HOP2.out
      obtain ⟨-, c0, c1, c2, c3, c4, c5, c6⟩ := hop
      simp only at c0 c1 c2 c3 c5 c6
      go_wp2
      go_ret2
      exact ⟨_, rfl, by rw [HYY.out]; have := HR2.out.weak (Nat.le_succ _); simpa using this, HB2.out⟩
  · have hzb : (z == 0) = false := by simpa using hz0
    have hzd : (z != 0) = true := by simpa using hz0
    have HYY : Hid (y = []) := by rw [HY.out, if_neg hz0]; rfl
    clear HY hz
    obtain ⟨k, s, a, b, l, d, c⟩ := o
    unfold opv at *
    simp only at *
    generalize l.length = n at *
    clear hmax
    go_enter Try.func53, Try.ntmps53
    go_wp2_with fail
    have hc := HC.out (w.alloc (.cells #[.int .i64 k, .string s, .int .i64 a, .int .i64 b, .slice p n cap, .int .i64 d, .bool c] 26)) (HV.out.below ((Below.refl _ w).alloc (Nat.le_refl _) _))
    refine hc.mono ?_
    rintro e w0 ⟨rfl, hb1⟩
    clear hc
    have HB0 := hid (below_trans ((Below.refl _ w).alloc (Nat.le_refl _) (.cells #[.int .i64 k, .string s, .int .i64 a, .int .i64 b, .slice p n cap, .int .i64 d, .bool c] 26)) hb1 (by simp))
    have HOP0 := hid ((OpAt.new w ⟨k, s, a, b, l, d, c⟩ (.slice p n cap) 26).below hb1 (by simp))
    clear hb1
    have hop := HOP0.out
    obtain ⟨-, c0, c1, c2, c3, c4, c5, c6⟩ := hop
    simp only at c0 c1 c2 c3 c5 c6
    clear c0 c1 c2 c3 c4 c5 c6
    go_wp2
    go_ret2
    exact ⟨_, rfl, by rw [HYY.out]; exact BO.nil _ _, HB0.out⟩
end Go.Proofs.Ytepgkemnpcadiaa
