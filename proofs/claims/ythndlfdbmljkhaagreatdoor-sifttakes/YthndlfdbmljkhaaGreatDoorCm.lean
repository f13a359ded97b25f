/-
  What comes of what, by the reference. A type, by the reference. The first elements of a row that is only read. Conditions within conditions, by the reference.
-/
import Derived.Test.YthndlfdbmljkhaaGreatDoorCd
import Derived.Test.YthndlfdbmljkhaaGreatDoorA
namespace Go.Proofs.YthndlfdbmljkhaaGreatDoor.Chk
open Go.ChangeShapes Go.WideShapes Go.ChangeAt Go.RowKit Go.Maps
set_option linter.unusedVariables false
set_option linter.unusedSimpArgs false
set_option maxRecDepth 20000
theorem rdR {w : World} {r : Rl} {vs : List Value} (h : RdL w (encR r) vs) : ∃ v1 v2 v3 v4 v5, vs = [.string r.n, v1, v2, v3, v4, .string r.e.ty, v5] ∧ Rd w (.row 65 18 (r.w.map encP)) v1 ∧ Rd w (.row 65 18 (r.t.map encP)) v2 ∧ Rd w (.row 68 20 (r.m.map encM)) v3 ∧ Rd w (.row 103 3 (r.k.map encK)) v4 ∧ Rd w (.row 61 6 (r.e.v.map encO)) v5 := by
  obtain ⟨v0, r0, rfl, h0, h⟩ := RdL.one h
  obtain ⟨v1, r1, rfl, h1, h⟩ := RdL.one h
  obtain ⟨v2, r2, rfl, h2, h⟩ := RdL.one h
  obtain ⟨v3, r3, rfl, h3, h⟩ := RdL.one h
  obtain ⟨v4, r4, rfl, h4, h⟩ := RdL.one h
  obtain ⟨v5, r5, rfl, h5, h⟩ := RdL.one h
  obtain ⟨v6, r6, rfl, h6, h⟩ := RdL.one h
  rw [rd_lit h0, rd_lit h5, RdL.none h]
  exact ⟨v1, v2, v3, v4, v6, rfl, h1, h2, h3, h4, h6⟩
def cmo (rs : List Rl) (to : ByteArray) : Nat → ByteArray → Bool
  | 0, _ => false
  | n + 1, nm => rs.any fun x => !(emp x.e.ty) && (spk x.w x.t x.m nm && (seq x.e.ty to || cmo rs to n x.e.ty))
set_option maxHeartbeats 16000000 in
theorem comesOf_any (rs : List Rl) (to : ByteArray) (tp : Option Addr) (tl tc : Nat) (rv : Value) : ∀ (n : Nat) (nm : ByteArray) (w : World), n ≤ 1000 → Rd w (.row 49 7 (rs.map encR)) rv → Calls Tryz.prog 37 #[.agg #[.slice tp tl tc, rv], .string to, .string nm, .int .i64 (n : Int)] w fun e w' => e = .returned (.bool (cmo rs to n nm)) ∧ Below w.heap.size w w' := by
 intro n
 induction n with
 | zero =>
  intro nm w _ hR
  obtain ⟨rp, rc, rfl, hmx, hat⟩ := rd_row lenR hR
  obtain ⟨nr, hnr⟩ : ∃ l, rs.length = l := ⟨_, rfl⟩
  rw [hnr] at hmx ⊢
  unfold cmo
  have HB0 : Hid (BlkT w (w.alloc (.cells [.slice tp tl tc, .slice rp nr rc].toArray 25)) [.slice tp tl tc, .slice rp nr rc] 25) := BlkT.start w _ _
  clear hR hat hnr
  go_enter Tryz.func37, Tryz.ntmps37
  go_wp2_with fail
  go_loopw [9, 10] (fun i _ wr => i = .int .i64 0 ∧ BlkT w wr [.slice tp tl tc, .slice rp nr rc] 25) (fun _ _ _ => 0)
  case atStart => exact ⟨rfl, HB0.out⟩
  case round =>
   obtain ⟨rfl, hTr⟩ := hrel
   have HT := hid hTr
   have y1 : wr.cell? ⟨w.heap.size, 1, none⟩ = some (.slice rp nr rc) := hTr.c 1
   clear hTr HB0
   by_cases h0 : (0 : Int) < (nr : Int)
   . go_wp2_with fail
     go_ret
     exact ⟨rfl, HT.out.bel⟩
   . go_wp2_with fail
     go_ret
     exact ⟨rfl, HT.out.bel⟩
 | succ n ih =>
  intro nm w hn9 hR
  have hR0 := hR
  obtain ⟨rp, rc, rfl, hmx, hat⟩ := rd_row lenR hR
  obtain ⟨nr, hnr⟩ : ∃ l, rs.length = l := ⟨_, rfl⟩
  have HAT := hid hat
  have HN := hid hnr
  rw [hnr] at hmx hR0 ih ⊢
  have HIH : Hid (∀ x W, Below w.heap.size w W → Calls Tryz.prog 37 #[.agg #[.slice tp tl tc, .slice rp nr rc], .string to, .string x, .int .i64 (n : Int)] W fun e w' => e = .returned (.bool (cmo rs to n x)) ∧ Below W.heap.size W w') := fun x W hW => ih x W (by omega) (hR0.later hW)
  have HB0 : Hid (BlkT w (w.alloc (.cells [.slice tp tl tc, .slice rp nr rc].toArray 25)) [.slice tp tl tc, .slice rp nr rc] 25) := BlkT.start w _ _
  have hst : (0 : Int) < ((n + 1 : Nat) : Int) := by omega
  have hsb : ((n + 1 : Nat) : Int) - 1 = (n : Int) := by omega
  have hsw : IntKind.i64.wrap (n : Int) = (n : Int) := by rw [IntKind.wrap_i64]; omega
  obtain ⟨N1, hN1⟩ : ∃ N1 : Int, ((n + 1 : Nat) : Int) = N1 := ⟨_, rfl⟩
  rw [hN1] at hst hsb ⊢
  clear hR hR0 hat hnr ih hN1 hn9
  go_enter Tryz.func37, Tryz.ntmps37
  go_wp2_with fail
  go_loopw [9, 10] (fun i _ wr => ∃ k : Nat, k ≤ nr ∧ i = .int .i64 (k : Nat) ∧ (∀ (j : Nat) (hj : j < rs.length), j < k → (!(emp rs[j].e.ty) && (spk rs[j].w rs[j].t rs[j].m nm && (seq rs[j].e.ty to || cmo rs to n rs[j].e.ty))) = false) ∧ BlkT w wr [.slice tp tl tc, .slice rp nr rc] 25) (fun i _ _ => nr + 1 - (intOf i).toNat)
  case atStart => exact ⟨0, by omega, rfl, fun j hj h => by omega, HB0.out⟩
  case round =>
   obtain ⟨k, hk, rfl, hf, hTr⟩ := hrel
   have HF := hid hf
   have HT : Hid (BlkT w wr [.slice tp tl tc, .slice rp nr rc] 25) := hTr
   have a1 : wr.cell? ⟨w.heap.size, 1, none⟩ = some (.slice rp nr rc) := hTr.c 1
   clear hf
   by_cases hlt : k < nr
   . have hkc : k < rs.length := by have := HN.out; omega
     obtain ⟨g, off, hp, hrd⟩ := HAT.out (by omega)
     have HQ := hid hp
     rw [hp] at a1
     obtain ⟨us, r1, o1⟩ := hrd wr hTr.bel k hkc
     obtain ⟨v1, v2, v3, v4, v5, z1, g1, g2, g3, g4, g5⟩ := rdR o1
     clear o1
     subst z1
     have HNX : (!(emp rs[k].e.ty) && (spk rs[k].w rs[k].t rs[k].m nm && (seq rs[k].e.ty to || cmo rs to n rs[k].e.ty))) = false → Hid (∀ (j : Nat) (hj : j < rs.length), j < k + 1 → (!(emp rs[j].e.ty) && (spk rs[j].w rs[j].t rs[j].m nm && (seq rs[j].e.ty to || cmo rs to n rs[j].e.ty))) = false) := fun hq j hj h => by
       by_cases c : j = k
       . subst c; exact hq
       . exact HF.out j hj (by omega)
     have HHT : (!(emp rs[k].e.ty) && (spk rs[k].w rs[k].t rs[k].m nm && (seq rs[k].e.ty to || cmo rs to n rs[k].e.ty))) = true → Hid (cmo rs to (n + 1) nm = true) := fun hq => by
       show cmo rs to (n + 1) nm = true
       rw [cmo]
       exact any_some (l := rs) (q := fun x : Rl => !(emp x.e.ty) && (spk x.w x.t x.m nm && (seq x.e.ty to || cmo rs to n x.e.ty))) hkc hq
     obtain ⟨q4, j4, e4, s4a, s4b⟩ := rd_row lenK g4
     obtain ⟨q5, j5, e5, s5a, s5b⟩ := rd_row lenO g5
     have hspk := fun W (hW : Below wr.heap.size wr W) => speaksOf_any rs[k].w rs[k].t rs[k].m rs[k].n rs[k].e.ty nm v1 v2 v3 q4 q5 rs[k].k.length rs[k].e.v.length j4 j5 W (g1.later hW) (g2.later hW) (g3.later hW)
     obtain ⟨q1, j1, e1, s1a, s1b⟩ := rd_row lenP g1
     obtain ⟨q2, j2, e2, s2a, s2b⟩ := rd_row lenP g2
     obtain ⟨q3, j3, e3, s3a, s3b⟩ := rd_row lenM g3
     subst e1 e2 e3 e4 e5
     obtain ⟨x, hx⟩ : ∃ x, rs[k] = x := ⟨_, rfl⟩
     rw [hx] at r1 HNX HHT hspk
     obtain ⟨xn, xw, xs, xm, xk, ⟨xt, xv⟩⟩ := x
     simp only at r1 HNX HHT hspk
     have hic := HIH.out xt
     obtain ⟨l1, hl1⟩ : ∃ l, xw.length = l := ⟨_, rfl⟩
     obtain ⟨l2, hl2⟩ : ∃ l, xs.length = l := ⟨_, rfl⟩
     obtain ⟨l3, hl3⟩ : ∃ l, xm.length = l := ⟨_, rfl⟩
     obtain ⟨l4, hl4⟩ : ∃ l, xk.length = l := ⟨_, rfl⟩
     obtain ⟨l5, hl5⟩ : ∃ l, xv.length = l := ⟨_, rfl⟩
     rw [hl1, hl2, hl3, hl4, hl5] at hspk
     rw [hl1, hl2, hl3, hl4, hl5] at r1
     have n0 := r1 0 _ rfl
     have n1 := r1 1 _ rfl
     have n2 := r1 2 _ rfl
     have n3 := r1 3 _ rfl
     have n4 := r1 4 _ rfl
     have n5 := r1 5 _ rfl
     have n6 := r1 6 _ rfl
     simp only [Nat.add_zero] at n0
     have HX : Hid (BlkT wr (wr.alloc (.cells [.string xn, (.slice q1 l1 j1), (.slice q2 l2 j2), (.slice q3 l3 j3), (.slice q4 l4 j4), .string xt, (.slice q5 l5 j5)].toArray 49)) [.string xn, (.slice q1 l1 j1), (.slice q2 l2 j2), (.slice q3 l3 j3), (.slice q4 l4 j4), .string xt, (.slice q5 l5 j5)] 49) := BlkT.start wr _ _
     rw [hp] at hic
     have i1 : (0 : Int) ≤ (k : Int) := by omega
     have i2 : (k : Int) < (nr : Int) := by omega
     clear s1a s1b s2a s2b s3a s3b s4a s4b s5a s5b g1 g2 g3 g4 g5 r1 hx hrd hTr hkc hp hl1 hl2 hl3 hl4 hl5 HF HB0
     cases hem : emp xt
     . obtain ⟨f1, f2⟩ := emp_f hem
       cases hsp : spk xw xs xm nm
       . rw [hsp] at hspk
         have HSP := hid hspk
         have HNY := HNX (by rw [hsp]; simp)
         clear HNX hspk hem hsp
         go_wp2_with (first
           | (go_at_call 77; refine (HSP.out _ HX.out.bel).mono ?_; rintro e w5 ⟨rfl, hb_⟩; have HX5 : Hid _ := HX.out.next hb_; have HT5 : Hid (BlkT w w5 [.slice tp tl tc, .slice rp nr rc] 25) := HT.out.next HX5.out.bel; have x5 : w5.cell? ⟨wr.heap.size, 5, none⟩ = some (.string xt) := HX5.out.c 5; have y0 : w5.cell? ⟨w.heap.size, 0, none⟩ = some (.slice tp tl tc) := HT5.out.c 0; have y1 : w5.cell? ⟨w.heap.size, 1, none⟩ = some (.slice rp nr rc) := HT5.out.c 1; rw [HQ.out] at y1; clear hb_))
         go_roundw
         case rel => exact ⟨k + 1, by omega, by go_num, HNY.out, HT5.out⟩
         case measure => simp [intOf]; omega
       . rw [hsp] at hspk
         have HSP := hid hspk
         cases hsq : seq xt to
         . have hq2 : (xt.toList == to.toList) = false := hsq
           cases hco : cmo rs to n xt
           . rw [hco] at hic
             have HIC := hid hic
             have HNY := HNX (by rw [hsq, hco]; simp)
             clear HNX hspk hem hsp hsq hco hic
             go_wp2_with (first
              | (go_at_call 37; refine (HIC.out _ HT5.out.bel).mono ?_; rintro e w6 ⟨rfl, hb_⟩; have HT6 : Hid _ := HT5.out.next hb_; clear hb_)
              | (go_at_call 77; refine (HSP.out _ HX.out.bel).mono ?_; rintro e w5 ⟨rfl, hb_⟩; have HX5 : Hid _ := HX.out.next hb_; have HT5 : Hid (BlkT w w5 [.slice tp tl tc, .slice rp nr rc] 25) := HT.out.next HX5.out.bel; have x5 : w5.cell? ⟨wr.heap.size, 5, none⟩ = some (.string xt) := HX5.out.c 5; have y0 : w5.cell? ⟨w.heap.size, 0, none⟩ = some (.slice tp tl tc) := HT5.out.c 0; have y1 : w5.cell? ⟨w.heap.size, 1, none⟩ = some (.slice rp nr rc) := HT5.out.c 1; rw [HQ.out] at y1; clear hb_))
             go_roundw
             case rel => exact ⟨k + 1, by omega, by go_num, HNY.out, HT6.out⟩
             case measure => simp [intOf]; omega
           . rw [hco] at hic
             have HIC := hid hic
             have HR0 := HHT (by rw [hem, hsp, hco]; simp)
             clear HNX HHT hspk hem hsp hsq hco hic
             go_wp2_with (first
              | (go_at_call 37; refine (HIC.out _ HT5.out.bel).mono ?_; rintro e w6 ⟨rfl, hb_⟩; have HT6 : Hid _ := HT5.out.next hb_; clear hb_)
              | (go_at_call 77; refine (HSP.out _ HX.out.bel).mono ?_; rintro e w5 ⟨rfl, hb_⟩; have HX5 : Hid _ := HX.out.next hb_; have HT5 : Hid (BlkT w w5 [.slice tp tl tc, .slice rp nr rc] 25) := HT.out.next HX5.out.bel; have x5 : w5.cell? ⟨wr.heap.size, 5, none⟩ = some (.string xt) := HX5.out.c 5; have y0 : w5.cell? ⟨w.heap.size, 0, none⟩ = some (.slice tp tl tc) := HT5.out.c 0; have y1 : w5.cell? ⟨w.heap.size, 1, none⟩ = some (.slice rp nr rc) := HT5.out.c 1; rw [HQ.out] at y1; clear hb_))
             go_ret
             rw [HR0.out]
             exact ⟨rfl, HT6.out.bel⟩
         . have hq2 : (xt.toList == to.toList) = true := hsq
           have HR0 := HHT (by rw [hem, hsp, hsq]; simp)
           clear HNX HHT hspk hem hsp hsq hic
           go_wp2_with (first
             | (go_at_call 77; refine (HSP.out _ HX.out.bel).mono ?_; rintro e w5 ⟨rfl, hb_⟩; have HX5 : Hid _ := HX.out.next hb_; have HT5 : Hid (BlkT w w5 [.slice tp tl tc, .slice rp nr rc] 25) := HT.out.next HX5.out.bel; have x5 : w5.cell? ⟨wr.heap.size, 5, none⟩ = some (.string xt) := HX5.out.c 5; have y0 : w5.cell? ⟨w.heap.size, 0, none⟩ = some (.slice tp tl tc) := HT5.out.c 0; have y1 : w5.cell? ⟨w.heap.size, 1, none⟩ = some (.slice rp nr rc) := HT5.out.c 1; rw [HQ.out] at y1; clear hb_))
           go_ret
           rw [HR0.out]
           exact ⟨rfl, HT5.out.bel⟩
     . have f1 := emp_t hem
       have HNY := HNX (by rw [hem]; simp)
       clear HNX hspk hem
       go_wp2_with fail
       go_roundw
       case rel => exact ⟨k + 1, by omega, by go_num, HNY.out, (HT.out.next HX.out.bel)⟩
       case measure => simp [intOf]; omega
   . obtain rfl : nr = k := by omega
     have HA : Hid (cmo rs to (n + 1) nm = false) := by
       show cmo rs to (n + 1) nm = false
       rw [cmo]
       exact any_none (l := rs) (q := fun x : Rl => !(emp x.e.ty) && (spk x.w x.t x.m nm && (seq x.e.ty to || cmo rs to n x.e.ty))) fun j hj => HF.out j hj (by have := HN.out; omega)
     clear hTr HF
     go_wp2_with fail
     go_ret
     rw [HA.out]
     exact ⟨rfl, HT.out.bel⟩
def fdk (f : Fd) : Int := if nchk f.n ≠ 0 then nchk f.n else if 1 ≤ f.k ∧ f.k ≤ 2 then 0 else 3
def tfs (done : List Fd) : List Fd → Int
  | [] => 0
  | f :: r => if fdk f ≠ 0 then fdk f else if done.any (fun d => seq d.n f.n) = true then 7 else tfs (done ++ [f]) r
def tyk (n : ByteArray) (fs : List Fd) : Int := if nchk n ≠ 0 then nchk n else if 4 < fs.length then 1 else tfs [] fs
theorem nf_any (s : ByteArray) (r : Int) (h : nchk s = r) (W : World) : Calls Tryz.prog 70 #[.string s] W fun e w' => e = .returned (.int .i64 r) ∧ w' = W := by rw [← h]; exact nfault_any s W
set_option maxHeartbeats 16000000 in
theorem typeFault_any (tn : ByteArray) (fs : List Fd) (v : Value) (w : World) (hF : Rd w (.row 93 2 (fs.map encF)) v) : Calls Tryz.prog 33 #[.agg #[.string tn, v]] w fun e w' => e = .returned (.int .i64 (tyk tn fs)) ∧ Below w.heap.size w w' := by
 obtain ⟨fp, fc, rfl, hmx, hat⟩ := rd_row lenF hF
 obtain ⟨n, hn⟩ : ∃ n, fs.length = n := ⟨_, rfl⟩
 have HN := hid hn
 have HAT : Hid (At encF 2 w fp fs) := hat
 unfold tyk
 rw [hn] at hmx ⊢
 have HB0 : Hid (BlkT w (w.alloc (.cells [.string tn, .slice fp n fc].toArray 72)) [.string tn, .slice fp n fc] 72) := BlkT.start w _ _
 obtain ⟨r, hr⟩ : ∃ r, nchk tn = r := ⟨_, rfl⟩
 rw [hr]
 have HNT : Hid (∀ W, Calls Tryz.prog 70 #[.string tn] W fun e w' => e = .returned (.int .i64 r) ∧ w' = W) := fun W => nf_any tn r hr W
 clear hF hat hn hr
 by_cases h1 : r = 0
 . rw [if_neg (fun c => c h1)]
   subst h1
   by_cases h4 : 4 < n
   . rw [if_pos h4]
     have b4 : (4 : Int) < (n : Int) := by omega
     go_enter Tryz.func33, Tryz.ntmps33
     go_wp2_with (first
       | (go_at_call_of 70 (Value.string tn); refine (HNT.out _).mono ?_; rintro e w' ⟨rfl, rfl⟩))
     go_loopw [3, 4, 5, 6] (fun e i _ _ wr => e = .int .i64 1 ∧ i = .int .i64 0 ∧ BlkT w wr [.string tn, .slice fp n fc] 72) (fun _ _ _ _ _ => 0)
     case atStart => exact ⟨rfl, rfl, HB0.out⟩
     case round =>
       obtain ⟨rfl, rfl, hTr⟩ := hrel
       have HT := hid hTr
       have a1 : wr.cell? ⟨w.heap.size, 1, none⟩ = some (.slice fp n fc) := hTr.c 1
       clear hTr HB0
       by_cases h0 : (0 : Int) < (n : Int)
       . go_wp2_with fail
         go_ret
         exact ⟨rfl, HT.out.bel⟩
       . exfalso
         omega
   . rw [if_neg h4]
     have b4 : ¬ (4 : Int) < (n : Int) := by omega
     obtain ⟨R, hR⟩ : ∃ R, tfs [] fs = R := ⟨_, rfl⟩
     rw [hR]
     have HR := hid hR
     clear hR
     go_enter Tryz.func33, Tryz.ntmps33
     go_wp2_with (first
       | (go_at_call_of 70 (Value.string tn); refine (HNT.out _).mono ?_; rintro e w' ⟨rfl, rfl⟩))
     go_loopw [3, 4, 5, 6] (fun e i _ _ wr => ∃ (k : Nat) (e1 : Int), k ≤ n ∧ i = .int .i64 (k : Nat) ∧ e = .int .i64 e1 ∧ ((e1 = 0 ∧ tfs (fs.take k) (fs.drop k) = R) ∨ (e1 ≠ 0 ∧ e1 = R)) ∧ BlkT w wr [.string tn, .slice fp n fc] 72) (fun _ i _ _ _ => n + 1 - (intOf i).toNat)
     case atStart => exact ⟨0, 0, by omega, rfl, rfl, .inl ⟨rfl, HR.out⟩, HB0.out⟩
     case round =>
       obtain ⟨k, e1, hk, rfl, rfl, hc, hTr⟩ := hrel
       have HT : Hid (BlkT w wr [.string tn, .slice fp n fc] 72) := hTr
       have a1 : wr.cell? ⟨w.heap.size, 1, none⟩ = some (.slice fp n fc) := hTr.c 1
       clear HB0
       rcases hc with ⟨rfl, hev⟩ | ⟨he, hR⟩
       . by_cases hlt : k < n
         . have hkc : k < fs.length := by have := HN.out; omega
           obtain ⟨g, off, hp, hrd⟩ := HAT.out (by omega)
           have HQ := hid hp
           have HRD := hid hrd
           rw [hp] at a1
           obtain ⟨us, r1, o1⟩ := hrd wr hTr.bel k hkc
           have z1 := rdF o1
           clear o1
           subst z1
           rw [List.drop_eq_getElem_cons hkc, tfs] at hev
           have htk : fs.take (k + 1) = fs.take k ++ [fs[k]] := by rw [List.take_succ_eq_append_getElem hkc]
           obtain ⟨f, hfd⟩ : ∃ f, fs[k] = f := ⟨_, rfl⟩
           rw [hfd] at r1 hev htk
           obtain ⟨fnm, fk⟩ := f
           simp only at r1 hev
           have HTK := hid htk
           have n0 := r1 0 _ rfl
           have n1 := r1 1 _ rfl
           simp only [Nat.add_zero] at n0
           unfold fdk at hev
           simp only at hev
           obtain ⟨rf, hrf⟩ : ∃ rf, nchk fnm = rf := ⟨_, rfl⟩
           rw [hrf] at hev
           have HNF : Hid (∀ W, Calls Tryz.prog 70 #[.string fnm] W fun e w' => e = .returned (.int .i64 rf) ∧ w' = W) := fun W => nf_any fnm rf hrf W
           have HX : Hid (BlkT wr (wr.alloc (.cells [.string fnm, .int .i64 fk].toArray 93)) [.string fnm, .int .i64 fk] 93) := BlkT.start wr _ _
           have i1 : (0 : Int) ≤ (k : Int) := by omega
           have i2 : (k : Int) < (n : Int) := by omega
           clear hrf r1 hfd hrd hTr hkc hp htk
           by_cases h1 : rf = 0
           . rw [if_neg (show ¬ rf ≠ 0 from fun c => c h1)] at hev
             by_cases h2 : 1 ≤ fk ∧ fk ≤ 2
             . rw [if_pos h2, if_neg (by decide)] at hev
               have HEV : Hid ((if (fs.take k).any (fun d => seq d.n fnm) = true then (7 : Int) else tfs (fs.take k ++ [⟨fnm, fk⟩]) (fs.drop (k + 1))) = R) := hev
               have HIN : Hid (∀ W, Calls Tryz.prog 17 #[.int .i64 fk, .int .i64 1, .int .i64 2] W fun e w' => e = .returned (.bool true) ∧ w' = W) := fun W => in_any fk _ _ true (say_true h2) W
               subst h1
               clear hev h2
               go_wp2_with (first
                 | (go_at_call 17; refine (HIN.out _).mono ?_; rintro e w' ⟨rfl, rfl⟩)
                 | (go_at_call 70; refine (HNF.out _).mono ?_; rintro e w' ⟨rfl, rfl⟩))
               obtain ⟨w0, hw0⟩ : ∃ w0, wr = w0 := ⟨_, rfl⟩
               rw [hw0] at HX HT ⊢
               clear a1 n0 n1
               clear hw0
               go_loopw [3, 6] (fun e i wq => ∃ (j : Nat) (e2 : Int), j ≤ k ∧ i = .int .i64 (j : Nat) ∧ e = .int .i64 e2 ∧ ((e2 = 0 ∧ ∀ (q : Nat) (hq : q < fs.length), q < j → seq fs[q].n fnm = false) ∨ (e2 = 7 ∧ (fs.take k).any (fun d => seq d.n fnm) = true)) ∧ BlkT w0 wq [.string fnm, .int .i64 fk] 93) (fun e i _ => (k + 1 - (intOf i).toNat) + (if intOf e = 0 then 1 else 0))
               case atStart => exact ⟨0, 0, by omega, rfl, rfl, .inl ⟨rfl, fun q hq h => by omega⟩, HX.out⟩
               case round =>
                 obtain ⟨j, e2, hj, rfl, rfl, hc, hXr⟩ := hrel
                 have HX2 : Hid (BlkT w0 wr [.string fnm, .int .i64 fk] 93) := hXr
                 have HT2 : Hid (BlkT w wr [.string tn, .slice fp n fc] 72) := HT.out.next hXr.bel
                 have a2 : wr.cell? ⟨w.heap.size, 1, none⟩ = some (.slice fp n fc) := HT2.out.c 1
                 have x0 : wr.cell? ⟨w0.heap.size, 0, none⟩ = some (.string fnm) := hXr.c 0
                 rw [HQ.out] at a2
                 clear hXr
                 rcases hc with ⟨rfl, hno⟩ | ⟨rfl, hany⟩
                 . have HNO := hid hno
                   clear hno
                   by_cases hjk : j < k
                   . have hjc : j < fs.length := by have := HN.out; omega
                     obtain ⟨us, r1, o1⟩ := HRD.out wr HT2.out.bel j hjc
                     have z1 := rdF o1
                     clear o1
                     subst z1
                     have n0 := r1 0 _ rfl
                     simp only [Nat.add_zero] at n0
                     have HNX : seq fs[j].n fnm = false → Hid (∀ (q : Nat) (hq : q < fs.length), q < j + 1 → seq fs[q].n fnm = false) := fun h9 q hq h => by
                       by_cases c : q = j
                       . subst c; exact h9
                       . exact HNO.out q hq (by omega)
                     have HHT : seq fs[j].n fnm = true → Hid ((fs.take k).any (fun d => seq d.n fnm) = true) := fun h9 => List.any_eq_true.2 ⟨fs[j], by rw [List.mem_take_iff_getElem]; exact ⟨j, by omega, rfl⟩, h9⟩
                     obtain ⟨d, hd⟩ : ∃ d, fs[j].n = d := ⟨_, rfl⟩
                     rw [hd] at n0 HNX HHT
                     have i3 : (0 : Int) ≤ (j : Int) := by omega
                     have i4 : (j : Int) < (n : Int) := by omega
                     have i5 : (j : Int) < (k : Int) := by omega
                     cases hq : seq d fnm
                     . have HNY := HNX hq
                       have hq2 : (d.toList == fnm.toList) = false := hq
                       clear HNX HHT hq hd r1 hjc
                       go_wp2_with fail
                       go_quiet (fail)
                       go_wp2_with fail
                       go_roundw
                       case rel => exact ⟨j + 1, 0, by omega, by go_num, rfl, .inl ⟨rfl, HNY.out⟩, HX2.out.next (below_drawn (Below.refl _ _) _)⟩
                       case measure => simp [intOf]; omega
                     . have HNY := HHT hq
                       have hq2 : (d.toList == fnm.toList) = true := hq
                       clear HNX HHT hq hd r1 hjc
                       go_wp2_with fail
                       go_quiet (fail)
                       go_wp2_with fail
                       go_roundw
                       case rel => exact ⟨j + 1, 7, by omega, by go_num, rfl, .inr ⟨rfl, HNY.out⟩, HX2.out.next (below_drawn (Below.refl _ _) _)⟩
                       case measure => simp [intOf]; omega
                   . obtain rfl : j = k := by omega
                     have HR0 : Hid (tfs (fs.take (j + 1)) (fs.drop (j + 1)) = R) := by
                       have h := HEV.out
                       have hn9 : (fs.take j).any (fun d => seq d.n fnm) = false := by
                         rw [List.any_eq_false]
                         intro x hx
                         rw [List.mem_take_iff_getElem] at hx
                         obtain ⟨q, hq, rfl⟩ := hx
                         rw [HNO.out q (by omega) (by omega)]
                         decide
                       rw [if_neg (by rw [hn9]; decide)] at h
                       rw [HTK.out]
                       exact h
                     clear HNO a2 x0
                     go_wp2_with fail
                     go_roundw
                     case rel => exact ⟨j + 1, 0, by omega, by go_num, rfl, .inl ⟨rfl, HR0.out⟩, HT2.out⟩
                     case measure => simp [intOf]; omega
                 . have HR0 : Hid (7 = R) := by
                     have h := HEV.out
                     rw [if_pos hany] at h
                     exact h
                   clear hany a2 x0
                   by_cases hjk : (j : Int) < (k : Int)
                   . go_wp2_with fail
                     go_roundw
                     case rel => exact ⟨k + 1, 7, by omega, by go_num, rfl, .inr ⟨by decide, HR0.out⟩, HT2.out⟩
                     case measure => simp [intOf]; omega
                   . go_wp2_with fail
                     go_roundw
                     case rel => exact ⟨k + 1, 7, by omega, by go_num, rfl, .inr ⟨by decide, HR0.out⟩, HT2.out⟩
                     case measure => simp [intOf]; omega
             . rw [if_neg h2, if_pos (by decide)] at hev
               have HR0 : Hid (3 = R) := hev
               have HE0 : Hid ((3 : Int) ≠ 0) := by show (3 : Int) ≠ 0; decide
               have HIN : Hid (∀ W, Calls Tryz.prog 17 #[.int .i64 fk, .int .i64 1, .int .i64 2] W fun e w' => e = .returned (.bool false) ∧ w' = W) := fun W => in_any fk _ _ false (say_false h2) W
               subst h1
               clear hev h2
               go_wp2_with (first
                 | (go_at_call 17; refine (HIN.out _).mono ?_; rintro e w' ⟨rfl, rfl⟩)
                 | (go_at_call 70; refine (HNF.out _).mono ?_; rintro e w' ⟨rfl, rfl⟩))
               go_loopw [3, 6] (fun e i wq => e = .int .i64 3 ∧ i = .int .i64 0 ∧ BlkT wr wq [.string fnm, .int .i64 fk] 93) (fun _ _ _ => 0)
               case atStart => exact ⟨rfl, rfl, HX.out⟩
               case round =>
                 obtain ⟨rfl, rfl, hXr⟩ := hrel
                 have HX2 := hid hXr
                 clear hXr
                 by_cases h0 : (0 : Int) < (k : Int)
                 . go_wp2_with fail
                   go_roundw
                   case rel => exact ⟨k + 1, 3, by omega, by go_num, rfl, .inr ⟨HE0.out, HR0.out⟩, HT.out.next HX2.out.bel⟩
                   case measure => simp [intOf]; omega
                 . go_wp2_with fail
                   go_roundw
                   case rel => exact ⟨k + 1, 3, by omega, by go_num, rfl, .inr ⟨HE0.out, HR0.out⟩, HT.out.next HX2.out.bel⟩
                   case measure => simp [intOf]; omega
           . rw [if_pos h1, if_pos h1] at hev
             have HR0 : Hid (rf = R) := hev
             have HE0 : Hid (rf ≠ 0) := h1
             have b1 : (rf == 0) = false := by simpa using h1
             have b2 : (rf != 0) = true := by simpa using h1
             clear hev
             go_wp2_with (first
               | (go_at_call 70; refine (HNF.out _).mono ?_; rintro e w' ⟨rfl, rfl⟩))
             go_loopw [3, 6] (fun e i wq => e = .int .i64 rf ∧ i = .int .i64 0 ∧ BlkT wr wq [.string fnm, .int .i64 fk] 93) (fun _ _ _ => 0)
             case atStart => exact ⟨rfl, rfl, HX.out⟩
             case round =>
               obtain ⟨rfl, rfl, hXr⟩ := hrel
               have HX2 := hid hXr
               clear hXr
               by_cases h0 : (0 : Int) < (k : Int)
               . go_wp2_with fail
                 go_roundw
                 case rel => exact ⟨k + 1, rf, by omega, by go_num, rfl, .inr ⟨HE0.out, HR0.out⟩, HT.out.next HX2.out.bel⟩
                 case measure => simp [intOf]; omega
               . go_wp2_with fail
                 go_roundw
                 case rel => exact ⟨k + 1, rf, by omega, by go_num, rfl, .inr ⟨HE0.out, HR0.out⟩, HT.out.next HX2.out.bel⟩
                 case measure => simp [intOf]; omega
         . obtain rfl : n = k := by omega
           rw [List.drop_eq_nil_of_le (by have := HN.out; omega), tfs] at hev
           have HR0 := hid hev
           clear hTr hev
           go_wp2_with fail
           go_ret
           exact ⟨ret_int HR0.out, HT.out.bel⟩
       . have HR0 := hid hR
         have b1 : (e1 == 0) = false := by simpa using he
         clear hTr hR
         by_cases h0 : (k : Int) < (n : Int)
         . go_wp2_with fail
           go_ret
           exact ⟨ret_int HR0.out, HT.out.bel⟩
         . go_wp2_with fail
           go_ret
           exact ⟨ret_int HR0.out, HT.out.bel⟩
 . rw [if_pos h1]
   have b1 : (r == 0) = false := by simpa using h1
   have b2 : (r != 0) = true := by simpa using h1
   go_enter Tryz.func33, Tryz.ntmps33
   go_wp2_with (first
     | (go_at_call_of 70 (Value.string tn); refine (HNT.out _).mono ?_; rintro e w' ⟨rfl, rfl⟩))
   go_loopw [3, 4, 5, 6] (fun e i _ _ wr => e = .int .i64 r ∧ i = .int .i64 0 ∧ BlkT w wr [.string tn, .slice fp n fc] 72) (fun _ _ _ _ _ => 0)
   case atStart => exact ⟨rfl, rfl, HB0.out⟩
   case round =>
     obtain ⟨rfl, rfl, hTr⟩ := hrel
     have HT := hid hTr
     have a1 : wr.cell? ⟨w.heap.size, 1, none⟩ = some (.slice fp n fc) := hTr.c 1
     clear hTr HB0
     by_cases h0 : (0 : Int) < (n : Int)
     . go_wp2_with fail
       go_ret
       exact ⟨rfl, HT.out.bel⟩
     . go_wp2_with fail
       go_ret
       exact ⟨rfl, HT.out.bel⟩
end Go.Proofs.YthndlfdbmljkhaaGreatDoor.Chk
namespace Go.Proofs.YthndlfdbmljkhaaGreatDoor.Chk
open Go.ChangeShapes Go.WideShapes Go.ChangeAt Go.RowKit Go.Maps
set_option linter.unusedVariables false
set_option linter.unusedSimpArgs false
theorem flat_take {α : Type} {enc : α → List Dat} (cs : List α) (k : Nat) : ∃ r, (cs.map enc).flatten = ((cs.take k).map enc).flatten ++ r := ⟨((cs.drop k).map enc).flatten, by rw [← List.flatten_append, ← List.map_append, List.take_append_drop]⟩
theorem rd_take {α : Type} {enc : α → List Dat} {e z : Nat} {w : World} {p : Option Addr} {n cap : Nat} {cs : List α} (h : Rd w (.row e z (cs.map enc)) (.slice p n cap)) (k : Nat) (hk : k ≤ cs.length) : Rd w (.row e z ((cs.take k).map enc)) (.slice p k cap) := by
 generalize hd : Dat.row e z (cs.map enc) = d at h
 generalize hv : Value.slice p n cap = v at h
 cases h with
 | lit v => cases hd
 | nil e' z' p' cap' h1 =>
  simp only [Dat.row.injEq] at hd
  simp only [Value.slice.injEq] at hv
  have h0 : cs.length = 0 := by have := congrArg List.length hd.2.2; simpa using this
  obtain rfl : k = 0 := by omega
  obtain ⟨rfl, _, rfl⟩ := hv
  have : (cs.take 0).map enc = [] := rfl
  rw [this]
  exact .nil _ _ _ _ h1
 | row e' z' l g off cap' xs h1 h2 h3 h4 h5 h6 =>
  simp only [Dat.row.injEq] at hd
  simp only [Value.slice.injEq] at hv
  obtain ⟨rfl, rfl, rfl⟩ := hd
  obtain ⟨rfl, rfl, rfl⟩ := hv
  by_cases h0 : k = 0
  . subst h0
    have : (cs.take 0).map enc = [] := rfl
    rw [this]
    exact .nil _ _ _ _ h3
  . obtain ⟨r, hr⟩ := flat_take (enc := enc) cs k
    have hl : ((cs.take k).map enc).length = k := by simp; omega
    have hlen : ((cs.take k).map enc).flatten.length ≤ xs.length := by rw [← h5, hr, List.length_append]; omega
    have key := Rd.row e z ((cs.take k).map enc) g off cap (xs.take ((cs.take k).map enc).flatten.length) (w := w) (by rw [hl]; omega) (by rw [hl]; rw [List.length_map] at h2; omega) h3 (fun j u hu => by
     have hj : j < ((cs.take k).map enc).flatten.length := by
      have := (List.getElem?_eq_some_iff.1 hu).1
      rw [List.length_take] at this
      omega
     rw [List.getElem?_take_of_lt hj] at hu
     exact h4 j u hu) (by rw [List.length_take]; omega) (fun q hq => by
     have h9 := h6 q (by rw [hr, List.length_append]; omega)
     have e1 : (cs.map enc).flatten[q]'(by rw [hr, List.length_append]; omega) = ((cs.take k).map enc).flatten[q] := by
      rw [List.getElem_of_eq hr, List.getElem_append_left hq]
     rw [e1] at h9
     have e2 : (xs.take ((cs.take k).map enc).flatten.length).getD q nilV = xs.getD q nilV := by
      rw [List.getD_eq_getElem?_getD, List.getD_eq_getElem?_getD, List.getElem?_take_of_lt hq]
     rw [e2]
     exact h9)
    rw [hl] at key
    exact key
end Go.Proofs.YthndlfdbmljkhaaGreatDoor.Chk
namespace Go.Proofs.YthndlfdbmljkhaaGreatDoor.Chk
open Go.ChangeShapes Go.WideShapes Go.ChangeAt Go.RowKit Go.Maps
set_option linter.unusedVariables false
set_option linter.unusedSimpArgs false
set_option maxRecDepth 20000
theorem step_call5 {ops : Array Oper} {o : Oper} {a : Act} {w : World} {K : Act → World → Prop} {Q : Exit → Act → World → Prop} {E : Prop} (f : FuncId) (he : ∀ args w, (callFunc f args).run Tryz.prog w = .ok (.enter f args) w) (hw : Region.wanted o (yielded ops a.tmps) = true) (x1 x2 x3 x4 x5 : Operand) (ts : Array TypeId) (ho : o.op = .call { callee := .value (.func f), args := #[x1, x2, x3, x4, x5], argTypes := ts }) (u1 u2 u3 u4 u5 : Value) (h1 : a.eval x1 = u1) (h2 : a.eval x2 = u2) (h3 : a.eval x3 = u3) (h4 : a.eval x4 = u4) (h5 : a.eval x5 = u5)
  (R : Ending → World → Prop) (hc : Calls Tryz.prog f #[u1, u2, u3, u4, u5] w R) (h : ∀ e w', R e w' → ∃ v, e = .returned v ∧ K (a.put o.dst v) w') :
  if Region.wanted o (yielded ops a.tmps) = true then Oper.wp Tryz.prog o a w K Q else E := by
 rw [if_pos hw]
 unfold Oper.wp execOp
 have hf : a.eval (.func f) = Value.func (Fn.func f) #[] #[] := rfl
 simp [ho, resolve, invoke, Deferred.ofValue, hf, h1, h2, h3, h4, h5, he]
 refine hc.mono ?_
 intro e w' hr
 obtain ⟨v, rfl, hk⟩ := h e w' hr
 exact hk
theorem range_bel {w w' : World} {g o : Nat} {l : List Value} (h : w.rangeAt g o l) (hb : Below w.drew.heap.size w.drew w') : w'.rangeAt g o l := fun j x hx => (hb.cell (p := ⟨g, o + j, none⟩) (World.block_lt_of_cell? _ _ (h j x hx))).trans (h j x hx)
theorem ent_cf : ∀ args w, (callFunc 122 args).run Tryz.prog w = .ok (.enter 122 args) w := enters_of Tryz.func122 (by kernel_rfl) rfl
theorem cgo_range (f : Cn → Int × Int) (hf : ∀ x, 0 ≤ (f x).1 ∧ (f x).1 ≤ 12) : ∀ l m, 0 ≤ m ∧ m ≤ 12 → 0 ≤ (cgo f l m).1 ∧ (cgo f l m).1 ≤ 12
 | [], m, h => h
 | x :: r, m, h => by
  unfold cgo
  split
  . exact ⟨by simp, by simp⟩
  . split
    . exact ⟨by simp, by simp⟩
    . rename_i c
      exact cgo_range f hf r _ ⟨by have := (hf x).1; omega, by omega⟩
theorem cdk_range (ts : List Tp) (kn : List Pt) (own : Tp) : ∀ n c, 0 ≤ (cdk ts kn own n c).1 ∧ (cdk ts kn own n c).1 ≤ 12
 | 0, c => by unfold cdk; split <;> exact ⟨by simp, by simp⟩
 | n + 1, c => by
  unfold cdk
  repeat' split
  all_goals first
   | exact cgo_range _ (cdk_range ts kn own n) _ _ ⟨by decide, by decide⟩
   | exact ⟨by simp, by simp⟩
theorem encC_rd {w : World} {c : Cn} {vs : List Value} (h : RdL w (encC c) vs) : ∃ v, vs = cnC c.k v c.l c.r ∧ Rd w (.row 63 14 c.sb) v := by
  obtain ⟨v2, r2, rfl, h2, h⟩ := RdL.one h
  obtain ⟨v3, r3, rfl, h3, h⟩ := RdL.one h
  obtain ⟨a0, r4, rfl, g0, h⟩ := RdL.one h
  obtain ⟨a1, r4, rfl, g1, h⟩ := RdL.one h
  obtain ⟨a2, r4, rfl, g2, h⟩ := RdL.one h
  obtain ⟨a3, r4, rfl, g3, h⟩ := RdL.one h
  obtain ⟨a4, r4, rfl, g4, h⟩ := RdL.one h
  obtain ⟨a5, r4, rfl, g5, h⟩ := RdL.one h
  obtain ⟨b0, r4, rfl, k0, h⟩ := RdL.one h
  obtain ⟨b1, r4, rfl, k1, h⟩ := RdL.one h
  obtain ⟨b2, r4, rfl, k2, h⟩ := RdL.one h
  obtain ⟨b3, r4, rfl, k3, h⟩ := RdL.one h
  obtain ⟨b4, r4, rfl, k4, h⟩ := RdL.one h
  obtain ⟨b5, r4, rfl, k5, h⟩ := RdL.one h
  rw [rd_lit h2, rd_lit g0, rd_lit g1, rd_lit g2, rd_lit g3, rd_lit g4, rd_lit g5, rd_lit k0, rd_lit k1, rd_lit k2, rd_lit k3, rd_lit k4, rd_lit k5, RdL.none h]
  exact ⟨v3, rfl, h3⟩
set_option maxHeartbeats 16000000 in
theorem cond_group (f : Cn → Int × Int) (hfr : ∀ x, 0 ≤ (f x).1 ∧ (f x).1 ≤ 12) (cs : List Cn) (on : ByteArray) (ck : Int) (lk lvk lvi rk rvk rvi : Int) (lvt lva lfd rvt rva rfd : ByteArray) (tp kp fp : Option Addr) (v : Value) (tl tc kl kc fl fc : Nat) (dp : Int) (w : World) (hk : 1 ≤ ck ∧ ck ≤ 7) (hd : ¬ 8 < dp) (hd0 : 0 ≤ dp) (h3 : ¬ 3 < ck) (hl : eqz ⟨lk, lvk, lvi, lvt, lva, lfd⟩ = true) (hr : eqz ⟨rk, rvk, rvi, rvt, rva, rfd⟩ = true) (hcn : ¬ ((ck = 3 ∧ cs.length ≠ 1) ∨ (ck ≠ 3 ∧ cs.length < 2))) (hS : Rd w (.row 63 14 (cs.map encC)) v)
   (hIH : ∀ x, x ∈ cs → ∀ W, Below w.heap.size w W → ∀ u, Rd W (.row 63 14 x.sb) u → Calls Tryz.prog 122 #[.slice tp tl tc, .slice kp kl kc, .agg #[.string on, .slice fp fl fc], .agg (cnC x.k u x.l x.r).toArray, .int .i64 (dp + 1)] W (CR W (f x))) :
   Calls Tryz.prog 122 #[.slice tp tl tc, .slice kp kl kc, .agg #[.string on, .slice fp fl fc], cnV ck v ⟨lk, lvk, lvi, lvt, lva, lfd⟩ ⟨rk, rvk, rvi, rvt, rva, rfd⟩, .int .i64 dp] w (CR w (cgo f cs 0)) := by
 obtain ⟨z1, z2, z3, z4, z5, z6⟩ := eqz_of hl
 obtain ⟨z7, z8, z9, y1, y2, y3⟩ := eqz_of hr
 simp only at z1 z2 z3 z4 z5 z6 z7 z8 z9 y1 y2 y3
 subst z1 z2 z3 z7 z8 z9
 obtain ⟨p, cap, rfl, hmx, hat⟩ := rd_row lenC hS
 have HAT : Hid (At encC 14 w p cs) := hat
 have HIH := hid hIH
 have HFR := hid hfr
 obtain ⟨n, hn⟩ : ∃ n, cs.length = n := ⟨_, rfl⟩
 have HN : Hid (cs.length = n) := hn
 rw [hn] at hmx hcn ⊢
 obtain ⟨F, hF⟩ : ∃ F, cgo f cs 0 = F := ⟨_, rfl⟩
 rw [hF]
 have HF : Hid (cgo f cs 0 = F) := hF
 have HI : Hid (∀ W, Calls Tryz.prog 17 #[.int .i64 ck, .int .i64 1, .int .i64 7] W fun e w' => e = .returned (.bool true) ∧ w' = W) := fun W => in_any ck _ _ true (say_true hk) W
 have HB3 : Hid (Blk2 w (((w.alloc (.cells [.string on, .slice fp fl fc].toArray 72)).alloc (.cells (cnC ck (.slice p n cap) ⟨0, 0, 0, lvt, lva, lfd⟩ ⟨0, 0, 0, rvt, rva, rfd⟩).toArray 63)).alloc (.cells #[.int .i64 0, .int .i64 0, .int .i64 0, .string ⟨#[]⟩, .string ⟨#[]⟩, .string ⟨#[]⟩] 61)) [.string on, .slice fp fl fc] (cnC ck (.slice p n cap) ⟨0, 0, 0, lvt, lva, lfd⟩ ⟨0, 0, 0, rvt, rva, rfd⟩) 72 63) := (Blk2.start w _ _ _ _).alloc _
 have hwd : IntKind.i64.wrap (dp + 1) = dp + 1 := by rw [IntKind.wrap_i64]; omega
 have HC : Hid ((ck = 3 ∧ n = 1) ∨ (ck ≠ 3 ∧ ¬ n < 2)) := by
   show _ ∨ _
   by_cases c : ck = 3
   . exact .inl ⟨c, by by_cases d : n = 1; exact d; exact absurd (.inl ⟨c, d⟩) hcn⟩
   . exact .inr ⟨c, fun d => hcn (.inr ⟨c, d⟩)⟩
 clear hl hr hS hat hIH hfr hn hF hcn
 have main : ∀ ck : Int, True := fun _ => trivial
 clear main
 go_enter Tryz.func122, Tryz.ntmps122
 rcases HC.out with ⟨hc1, hc2⟩ | ⟨hc1, hc2⟩
 . have q0 : (ck == 3) = true := by simpa using hc1
   have q9 : (ck != 3) = false := by simpa using hc1
   have q1 : ((n : Int) != 1) = false := by simp; omega
   have q2 : ((n : Int) == 1) = true := by simp; omega
   clear hc1 hc2 HC
   go_wp2_with (go_at_call 17; refine (HI.out _).mono ?_; rintro e w' ⟨rfl, rfl⟩)
   clear q0 q9 q1 q2
   obtain ⟨W3, hW3⟩ : ∃ W3, (((w.alloc (.cells [.string on, .slice fp fl fc].toArray 72)).alloc (.cells (cnC ck (.slice p n cap) ⟨0, 0, 0, lvt, lva, lfd⟩ ⟨0, 0, 0, rvt, rva, rfd⟩).toArray 63)).alloc (.cells #[.int .i64 0, .int .i64 0, .int .i64 0, .string ⟨#[]⟩, .string ⟨#[]⟩, .string ⟨#[]⟩] 61)) = W3 := ⟨_, rfl⟩
   change Go.Code.wp _ _ _ _ (((w.alloc (.cells [.string on, .slice fp fl fc].toArray 72)).alloc (.cells (cnC ck (.slice p n cap) ⟨0, 0, 0, lvt, lva, lfd⟩ ⟨0, 0, 0, rvt, rva, rfd⟩).toArray 63)).alloc (.cells #[.int .i64 0, .int .i64 0, .int .i64 0, .string ⟨#[]⟩, .string ⟨#[]⟩, .string ⟨#[]⟩] 61))
   rw [hW3] at HB3 ⊢
   clear hW3 HI
   go_loopw [17, 18, 19, 20] (fun s i _ _ wr => ∃ (k : Nat) (m : Int), k ≤ n ∧ i = .int .i64 (k : Nat) ∧ s = .int .i64 m ∧ 0 ≤ m ∧ m ≤ 12 ∧ cgo f (cs.drop k) m = F ∧ Blk2 w wr [.string on, .slice fp fl fc] (cnC ck (.slice p n cap) ⟨0, 0, 0, lvt, lva, lfd⟩ ⟨0, 0, 0, rvt, rva, rfd⟩) 72 63) (fun _ i _ _ _ => n + 1 - (intOf i).toNat)
   case atStart => exact ⟨0, 0, by omega, rfl, rfl, by decide, by decide, HF.out, HB3.out⟩
   case round =>
     obtain ⟨k, m, hk2, rfl, rfl, hm0, hm1, hcg, hTr⟩ := hrel
     have HT : Hid (Blk2 w wr [.string on, .slice fp fl fc] (cnC ck (.slice p n cap) ⟨0, 0, 0, lvt, lva, lfd⟩ ⟨0, 0, 0, rvt, rva, rfd⟩) 72 63) := hTr
     have a1 : wr.cell? ⟨w.heap.size + 1, 1, none⟩ = some (.slice p n cap) := hTr.c2 1
     by_cases hlt : k < n
     . have hkc : k < cs.length := by have := HN.out; omega
       obtain ⟨g, off, hp, hrd⟩ := HAT.out (by omega)
       have HQ : Hid (p = some ⟨g, off, none⟩) := hp
       obtain ⟨A, r1, o1⟩ := hrd wr hTr.bel k hkc
       obtain ⟨u, z1, o2⟩ := encC_rd o1
       have hcall := HIH.out cs[k] (List.getElem_mem hkc) wr.drew hTr.bel.drew u (o2.later (Below.drew (Below.refl _ _)))
       rw [← z1] at hcall
       have hA14 : A.length = 14 := o1.1.symm
       rw [List.drop_eq_getElem_cons hkc, cgo] at hcg
       have hrg := HFR.out cs[k]
       obtain ⟨⟨rm, re⟩, hre⟩ : ∃ q, f cs[k] = q := ⟨_, rfl⟩
       rw [hre] at hcall hcg hrg
       simp only at hcg hrg
       have HCM : Hid (Calls Tryz.prog 122 #[.slice tp tl tc, .slice kp kl kc, .agg #[.string on, .slice fp fl fc], .agg A.toArray, .int .i64 (dp + 1)] wr.drew (fun e w' => ∃ m : Int, e = .returned (.tuple #[.int .i64 m, .int .i64 re]) ∧ (re = 0 → m = rm) ∧ Below wr.drew.heap.size wr.drew w')) := hcall
       have ZA : Hid ((Tryz.prog.info? 63).map (·.size) = some A.length) := by show _ = _; rw [hA14]; kernel_rfl
       have X1 : Hid (wr.rangeAt g (off + k * 14) A) := r1
       have HCG : Hid ((if re ≠ 0 then (0, re) else if 12 < m + rm then (0, 1) else cgo f (cs.drop (k + 1)) (m + rm)) = F) := hcg
       have i1 : (0 : Int) ≤ (k : Int) := by omega
       have i2 : (k : Int) < (n : Int) := by omega
       have hwm : IntKind.i64.wrap (m + rm) = m + rm := by rw [IntKind.wrap_i64]; omega
       clear hcall r1 o1 o2 hrd hTr hkc hA14 hcg hre z1
       rw [hp] at a1
       clear hp
       go_wp2_with fail
       refine start_n (S := (fun w' => w'.cell? ⟨w.heap.size, 0, none⟩ = some (.string on) ∧ w'.cell? ⟨w.heap.size, 1, none⟩ = some (.slice fp fl fc) ∧ w'.cell? ⟨w.heap.size + 1, 1, none⟩ = some (.slice (some ⟨g, off, none⟩) n cap) ∧ w'.rangeAt g (off + k * 14) A)) 16 #[false, false, false, false, false, false, false, false, false, false, false, false, false, false, false, false] rfl rfl (by kernel_rfl) (by { exact ⟨HT.out.c1 0, HT.out.c1 1, by { have h := HT.out.c2 1; rw [HQ.out] at h; exact h }, X1.out⟩ }) (fun hHeld => ?_)
       refine tkq (i := 0) (v := ?v1) rfl ?hy1 ?rest1; (case hy1 => intro w0 hSw; (try dsimp only at hSw); go_simp <;> (try (with_reducible rfl))); (try simp only [puts])
       refine tkq (i := 1) (v := ?v2) rfl ?hy2 ?rest2; (case hy2 => intro w0 hSw; (try dsimp only at hSw); go_simp <;> (try (with_reducible rfl))); (try simp only [puts])
       refine tkq (i := 2) (v := ?v3) rfl ?hy3 ?rest3; (case hy3 => intro w0 hSw; (try dsimp only at hSw); go_simp <;> (try (with_reducible rfl))); (try simp only [puts])
       refine tkq (i := 3) (v := ?v4) rfl ?hy4 ?rest4; (case hy4 => intro w0 hSw; (try dsimp only at hSw); go_simp <;> (try (with_reducible rfl))); (try simp only [puts])
       refine tkq (i := 4) (v := ?v5) rfl ?hy5 ?rest5; (case hy5 => intro w0 hSw; (try dsimp only at hSw); go_simp <;> (try (with_reducible rfl))); (try simp only [puts])
       refine tkq (i := 5) (v := ?v6) rfl ?hy6 ?rest6; (case hy6 => intro w0 hSw; (try dsimp only at hSw); go_simp <;> (try (with_reducible rfl))); (try simp only [puts])
       refine tkq (i := 6) (v := ?v7) rfl ?hy7 ?rest7; (case hy7 => intro w0 hSw; (try dsimp only at hSw); go_simp <;> (try (with_reducible rfl))); (try simp only [puts])
       refine tlq (i := 7) rfl (yieldsIf_load_mid (by rfl) 63 _ rfl g (off + k * 14) (by rfl) A _ (fun _ h => h.2.2.2) Tryz.underlying63 rfl ZA.out) ?_
       (try simp only [puts])
       refine tkq (i := 8) (v := ?v8) rfl ?hy8 ?rest8; (case hy8 => intro w0 hSw; (try dsimp only at hSw); go_simp <;> (try (with_reducible rfl))); (try simp only [puts])
       refine tkq (i := 9) (v := ?v9) rfl ?hy9 ?rest9; (case hy9 => intro w0 hSw; (try dsimp only at hSw); go_simp <;> (try (with_reducible rfl))); (try simp only [puts])
       refine wpAnyH_ready (rs := [10]) (by kernel_rfl) (by simp) ?_
       refine cons_mk rfl (fun K hK => ?_) AllReadyH.nil
       refine step_call5 122 ent_cf (by rfl) _ _ _ _ _ _ (by rfl) (.slice tp tl tc) (.slice kp kl kc) (.agg #[.string on, .slice fp fl fc]) (.agg A.toArray) (.int .i64 (dp + 1)) (by rfl) (by rfl) (by rfl) (by rfl) (by rfl) _ (HCM.out) ?_
       rintro e w5 ⟨m5, rfl, hm5, hb5⟩
       refine ⟨_, rfl, ?_⟩
       have HM5 : Hid (re = 0 → m5 = rm) := hm5
       have HT5 : Hid (Blk2 w w5 [.string on, .slice fp fl fc] (cnC ck (.slice p n cap) ⟨0, 0, 0, lvt, lva, lfd⟩ ⟨0, 0, 0, rvt, rva, rfd⟩) 72 63) := HT.out.drew.next hb5
       have X5 : Hid (w5.rangeAt g (off + k * 14) A) := range_bel X1.out hb5
       clear hb5 hm5
       refine hK.out _ _ (by { exact ⟨HT5.out.c1 0, HT5.out.c1 1, by { have h := HT5.out.c2 1; rw [HQ.out] at h; exact h }, X5.out⟩ }) (fun hHeld => ?_)
       clear hK K
       (try simp only [puts])
       refine tkq (i := 11) (v := ?v10) rfl ?hy10 ?rest10; (case hy10 => intro w0 hSw; (try dsimp only at hSw); go_simp <;> (try (with_reducible rfl))); (try simp only [puts])
       refine tkq (i := 12) (v := ?v11) rfl ?hy11 ?rest11; (case hy11 => intro w0 hSw; (try dsimp only at hSw); go_simp <;> (try (with_reducible rfl))); (try simp only [puts])
       refine tkq (i := 13) (v := ?v12) rfl ?hy12 ?rest12; (case hy12 => intro w0 hSw; (try dsimp only at hSw); go_simp <;> (try (with_reducible rfl))); (try simp only [puts])
       refine tkq (i := 14) (v := ?v13) rfl ?hy13 ?rest13; (case hy13 => intro w0 hSw; (try dsimp only at hSw); go_simp <;> (try (with_reducible rfl))); (try simp only [puts])
       refine tkq (i := 15) (v := ?v14) rfl ?hy14 ?rest14; (case hy14 => intro w0 hSw; (try dsimp only at hSw); go_simp <;> (try (with_reducible rfl))); (try simp only [puts])
       refine wpAnyH_done (by kernel_rfl) ?_ _
       clear hHeld a1
       by_cases hr0 : re = 0
       . have hm9 := HM5.out hr0
         have hcg := HCG.out
         rw [if_neg (by simpa using hr0)] at hcg
         have HCG2 := hid hcg
         clear hcg HCG HM5
         subst hr0 hm9
         by_cases h12 : 12 < m + m5
         . have HR : Hid ((0, 1) = F) := by have h := HCG2.out; rw [if_pos h12] at h; exact h
           go_wp2_with fail
           go_ret2
           rw [← HR.out]
           exact ⟨0, rfl, fun _ => rfl, HT5.out.bel⟩
         . have HR : Hid (cgo f (cs.drop (k + 1)) (m + m5) = F) := by have h := HCG2.out; rw [if_neg h12] at h; exact h
           go_wp2_with fail
           go_roundw
           case rel => exact ⟨k + 1, m + m5, by omega, by go_num, rfl, by omega, by omega, HR.out, HT5.out⟩
           case measure => simp [intOf]; omega
       . have b1 : (re != 0) = true := by simpa using hr0
         have b2 : (re == 0) = false := by simpa using hr0
         have HR : Hid ((0, re) = F) := by have h := HCG.out; rw [if_pos hr0] at h; exact h
         go_wp2_with fail
         go_ret2
         rw [← HR.out]
         exact ⟨0, rfl, fun _ => rfl, HT5.out.bel⟩
     . obtain rfl : n = k := by omega
       have hcg2 := hcg
       rw [List.drop_eq_nil_of_le (by have := HN.out; omega), cgo] at hcg2
       have HR := hid hcg2
       clear hTr hcg hcg2
       go_wp2_with fail
       go_ret2
       rw [← HR.out]
       exact ⟨m, rfl, fun _ => rfl, HT.out.bel⟩
 . have q1 : (ck == 3) = false := by simpa using hc1
   have q2 : (ck != 3) = true := by simpa using hc1
   have q3 : ¬ (n : Int) < 2 := by omega
   go_wp2_with (go_at_call 17; refine (HI.out _).mono ?_; rintro e w' ⟨rfl, rfl⟩)
   clear q1 q2 q3
   obtain ⟨W3, hW3⟩ : ∃ W3, (((w.alloc (.cells [.string on, .slice fp fl fc].toArray 72)).alloc (.cells (cnC ck (.slice p n cap) ⟨0, 0, 0, lvt, lva, lfd⟩ ⟨0, 0, 0, rvt, rva, rfd⟩).toArray 63)).alloc (.cells #[.int .i64 0, .int .i64 0, .int .i64 0, .string ⟨#[]⟩, .string ⟨#[]⟩, .string ⟨#[]⟩] 61)) = W3 := ⟨_, rfl⟩
   change Go.Code.wp _ _ _ _ (((w.alloc (.cells [.string on, .slice fp fl fc].toArray 72)).alloc (.cells (cnC ck (.slice p n cap) ⟨0, 0, 0, lvt, lva, lfd⟩ ⟨0, 0, 0, rvt, rva, rfd⟩).toArray 63)).alloc (.cells #[.int .i64 0, .int .i64 0, .int .i64 0, .string ⟨#[]⟩, .string ⟨#[]⟩, .string ⟨#[]⟩] 61))
   rw [hW3] at HB3 ⊢
   clear hW3 HI
   go_loopw [17, 18, 19, 20] (fun s i _ _ wr => ∃ (k : Nat) (m : Int), k ≤ n ∧ i = .int .i64 (k : Nat) ∧ s = .int .i64 m ∧ 0 ≤ m ∧ m ≤ 12 ∧ cgo f (cs.drop k) m = F ∧ Blk2 w wr [.string on, .slice fp fl fc] (cnC ck (.slice p n cap) ⟨0, 0, 0, lvt, lva, lfd⟩ ⟨0, 0, 0, rvt, rva, rfd⟩) 72 63) (fun _ i _ _ _ => n + 1 - (intOf i).toNat)
   case atStart => exact ⟨0, 0, by omega, rfl, rfl, by decide, by decide, HF.out, HB3.out⟩
   case round =>
     obtain ⟨k, m, hk2, rfl, rfl, hm0, hm1, hcg, hTr⟩ := hrel
     have HT : Hid (Blk2 w wr [.string on, .slice fp fl fc] (cnC ck (.slice p n cap) ⟨0, 0, 0, lvt, lva, lfd⟩ ⟨0, 0, 0, rvt, rva, rfd⟩) 72 63) := hTr
     have a1 : wr.cell? ⟨w.heap.size + 1, 1, none⟩ = some (.slice p n cap) := hTr.c2 1
     by_cases hlt : k < n
     . have hkc : k < cs.length := by have := HN.out; omega
       obtain ⟨g, off, hp, hrd⟩ := HAT.out (by omega)
       have HQ : Hid (p = some ⟨g, off, none⟩) := hp
       obtain ⟨A, r1, o1⟩ := hrd wr hTr.bel k hkc
       obtain ⟨u, z1, o2⟩ := encC_rd o1
       have hcall := HIH.out cs[k] (List.getElem_mem hkc) wr.drew hTr.bel.drew u (o2.later (Below.drew (Below.refl _ _)))
       rw [← z1] at hcall
       have hA14 : A.length = 14 := o1.1.symm
       rw [List.drop_eq_getElem_cons hkc, cgo] at hcg
       have hrg := HFR.out cs[k]
       obtain ⟨⟨rm, re⟩, hre⟩ : ∃ q, f cs[k] = q := ⟨_, rfl⟩
       rw [hre] at hcall hcg hrg
       simp only at hcg hrg
       have HCM : Hid (Calls Tryz.prog 122 #[.slice tp tl tc, .slice kp kl kc, .agg #[.string on, .slice fp fl fc], .agg A.toArray, .int .i64 (dp + 1)] wr.drew (fun e w' => ∃ m : Int, e = .returned (.tuple #[.int .i64 m, .int .i64 re]) ∧ (re = 0 → m = rm) ∧ Below wr.drew.heap.size wr.drew w')) := hcall
       have ZA : Hid ((Tryz.prog.info? 63).map (·.size) = some A.length) := by show _ = _; rw [hA14]; kernel_rfl
       have X1 : Hid (wr.rangeAt g (off + k * 14) A) := r1
       have HCG : Hid ((if re ≠ 0 then (0, re) else if 12 < m + rm then (0, 1) else cgo f (cs.drop (k + 1)) (m + rm)) = F) := hcg
       have i1 : (0 : Int) ≤ (k : Int) := by omega
       have i2 : (k : Int) < (n : Int) := by omega
       have hwm : IntKind.i64.wrap (m + rm) = m + rm := by rw [IntKind.wrap_i64]; omega
       clear hcall r1 o1 o2 hrd hTr hkc hA14 hcg hre z1
       rw [hp] at a1
       clear hp
       go_wp2_with fail
       refine start_n (S := (fun w' => w'.cell? ⟨w.heap.size, 0, none⟩ = some (.string on) ∧ w'.cell? ⟨w.heap.size, 1, none⟩ = some (.slice fp fl fc) ∧ w'.cell? ⟨w.heap.size + 1, 1, none⟩ = some (.slice (some ⟨g, off, none⟩) n cap) ∧ w'.rangeAt g (off + k * 14) A)) 16 #[false, false, false, false, false, false, false, false, false, false, false, false, false, false, false, false] rfl rfl (by kernel_rfl) (by { exact ⟨HT.out.c1 0, HT.out.c1 1, by { have h := HT.out.c2 1; rw [HQ.out] at h; exact h }, X1.out⟩ }) (fun hHeld => ?_)
       refine tkq (i := 0) (v := ?v1b) rfl ?hy1b ?rest1b; (case hy1b => intro w0 hSw; (try dsimp only at hSw); go_simp <;> (try (with_reducible rfl))); (try simp only [puts])
       refine tkq (i := 1) (v := ?v2b) rfl ?hy2b ?rest2b; (case hy2b => intro w0 hSw; (try dsimp only at hSw); go_simp <;> (try (with_reducible rfl))); (try simp only [puts])
       refine tkq (i := 2) (v := ?v3b) rfl ?hy3b ?rest3b; (case hy3b => intro w0 hSw; (try dsimp only at hSw); go_simp <;> (try (with_reducible rfl))); (try simp only [puts])
       refine tkq (i := 3) (v := ?v4b) rfl ?hy4b ?rest4b; (case hy4b => intro w0 hSw; (try dsimp only at hSw); go_simp <;> (try (with_reducible rfl))); (try simp only [puts])
       refine tkq (i := 4) (v := ?v5b) rfl ?hy5b ?rest5b; (case hy5b => intro w0 hSw; (try dsimp only at hSw); go_simp <;> (try (with_reducible rfl))); (try simp only [puts])
       refine tkq (i := 5) (v := ?v6b) rfl ?hy6b ?rest6b; (case hy6b => intro w0 hSw; (try dsimp only at hSw); go_simp <;> (try (with_reducible rfl))); (try simp only [puts])
       refine tkq (i := 6) (v := ?v7b) rfl ?hy7b ?rest7b; (case hy7b => intro w0 hSw; (try dsimp only at hSw); go_simp <;> (try (with_reducible rfl))); (try simp only [puts])
       refine tlq (i := 7) rfl (yieldsIf_load_mid (by rfl) 63 _ rfl g (off + k * 14) (by rfl) A _ (fun _ h => h.2.2.2) Tryz.underlying63 rfl ZA.out) ?_
       (try simp only [puts])
       refine tkq (i := 8) (v := ?v8b) rfl ?hy8b ?rest8b; (case hy8b => intro w0 hSw; (try dsimp only at hSw); go_simp <;> (try (with_reducible rfl))); (try simp only [puts])
       refine tkq (i := 9) (v := ?v9b) rfl ?hy9b ?rest9b; (case hy9b => intro w0 hSw; (try dsimp only at hSw); go_simp <;> (try (with_reducible rfl))); (try simp only [puts])
       refine wpAnyH_ready (rs := [10]) (by kernel_rfl) (by simp) ?_
       refine cons_mk rfl (fun K hK => ?_) AllReadyH.nil
       refine step_call5 122 ent_cf (by rfl) _ _ _ _ _ _ (by rfl) (.slice tp tl tc) (.slice kp kl kc) (.agg #[.string on, .slice fp fl fc]) (.agg A.toArray) (.int .i64 (dp + 1)) (by rfl) (by rfl) (by rfl) (by rfl) (by rfl) _ (HCM.out) ?_
       rintro e w5 ⟨m5, rfl, hm5, hb5⟩
       refine ⟨_, rfl, ?_⟩
       have HM5 : Hid (re = 0 → m5 = rm) := hm5
       have HT5 : Hid (Blk2 w w5 [.string on, .slice fp fl fc] (cnC ck (.slice p n cap) ⟨0, 0, 0, lvt, lva, lfd⟩ ⟨0, 0, 0, rvt, rva, rfd⟩) 72 63) := HT.out.drew.next hb5
       have X5 : Hid (w5.rangeAt g (off + k * 14) A) := range_bel X1.out hb5
       clear hb5 hm5
       refine hK.out _ _ (by { exact ⟨HT5.out.c1 0, HT5.out.c1 1, by { have h := HT5.out.c2 1; rw [HQ.out] at h; exact h }, X5.out⟩ }) (fun hHeld => ?_)
       clear hK K
       (try simp only [puts])
       refine tkq (i := 11) (v := ?v10b) rfl ?hy10b ?rest10b; (case hy10b => intro w0 hSw; (try dsimp only at hSw); go_simp <;> (try (with_reducible rfl))); (try simp only [puts])
       refine tkq (i := 12) (v := ?v11b) rfl ?hy11b ?rest11b; (case hy11b => intro w0 hSw; (try dsimp only at hSw); go_simp <;> (try (with_reducible rfl))); (try simp only [puts])
       refine tkq (i := 13) (v := ?v12b) rfl ?hy12b ?rest12b; (case hy12b => intro w0 hSw; (try dsimp only at hSw); go_simp <;> (try (with_reducible rfl))); (try simp only [puts])
       refine tkq (i := 14) (v := ?v13b) rfl ?hy13b ?rest13b; (case hy13b => intro w0 hSw; (try dsimp only at hSw); go_simp <;> (try (with_reducible rfl))); (try simp only [puts])
       refine tkq (i := 15) (v := ?v14b) rfl ?hy14b ?rest14b; (case hy14b => intro w0 hSw; (try dsimp only at hSw); go_simp <;> (try (with_reducible rfl))); (try simp only [puts])
       refine wpAnyH_done (by kernel_rfl) ?_ _
       clear hHeld a1
       by_cases hr0 : re = 0
       . have hm9 := HM5.out hr0
         have hcg := HCG.out
         rw [if_neg (by simpa using hr0)] at hcg
         have HCG2 := hid hcg
         clear hcg HCG HM5
         subst hr0 hm9
         by_cases h12 : 12 < m + m5
         . have HR : Hid ((0, 1) = F) := by have h := HCG2.out; rw [if_pos h12] at h; exact h
           go_wp2_with fail
           go_ret2
           rw [← HR.out]
           exact ⟨0, rfl, fun _ => rfl, HT5.out.bel⟩
         . have HR : Hid (cgo f (cs.drop (k + 1)) (m + m5) = F) := by have h := HCG2.out; rw [if_neg h12] at h; exact h
           go_wp2_with fail
           go_roundw
           case rel => exact ⟨k + 1, m + m5, by omega, by go_num, rfl, by omega, by omega, HR.out, HT5.out⟩
           case measure => simp [intOf]; omega
       . have b1 : (re != 0) = true := by simpa using hr0
         have b2 : (re == 0) = false := by simpa using hr0
         have HR : Hid ((0, re) = F) := by have h := HCG.out; rw [if_pos hr0] at h; exact h
         go_wp2_with fail
         go_ret2
         rw [← HR.out]
         exact ⟨0, rfl, fun _ => rfl, HT5.out.bel⟩
     . obtain rfl : n = k := by omega
       have hcg2 := hcg
       rw [List.drop_eq_nil_of_le (by have := HN.out; omega), cgo] at hcg2
       have HR := hid hcg2
       clear hTr hcg hcg2
       go_wp2_with fail
       go_ret2
       rw [← HR.out]
       exact ⟨m, rfl, fun _ => rfl, HT.out.bel⟩
end Go.Proofs.YthndlfdbmljkhaaGreatDoor.Chk
