/-
  One event of raw numbers. Plain facts for TakesNot. scene.CheckKnown: events that are known. Takes, by the program: the events ahead by scene.CheckKnown.
-/
import Derived.Test.YtnlmknbhppdliaaDoorTd
import Derived.Test.YtnlmknbhppdliaaDoorDu
set_option maxHeartbeats 64000000
namespace Go.Proofs.YtnlmknbhppdliaaDoor.Chk
open Go.ChangeShapes Go.WideShapes Go.ChangeAt Go.RowKit Go.Maps
set_option linter.unusedVariables false
set_option linter.unusedSimpArgs false
set_option maxRecDepth 20000
theorem vchk_int {k : Int} (h0 : 0 ≤ k) (h1 : k < 6) : V4.vchk ⟨1, k, txt []⟩ = 0 := by
  unfold V4.vchk
  have e : (txt []).toList = [] := by kernel_rfl
  have z : (txt []).size = 0 := by kernel_rfl
  simp only [e, z]
  rw [if_neg (by simp), if_neg (by simp), if_neg (by omega), if_neg (by omega)]
theorem vchk_txt {t : ByteArray} (h : t.size ≤ 3) : V4.vchk ⟨2, 0, t⟩ = 0 := by
  unfold V4.vchk
  simp only
  rw [if_neg (by simp), if_neg (by simp), if_neg (by omega), if_neg (by omega)]
theorem evk_vls {j : Nat} (hj : j < 4) {k s0 : Int} (h0 : 0 ≤ k) (h1 : k < 6) {t : ByteArray} (ht : t.size ≤ 3) (h2 : 0 ≤ s0) (h3 : s0 ≤ 20) : evk kts ⟨1, (j : Nat), s0, 20, vls j k t⟩ = 0 := by
 unfold evk V4.echk
 have e : V4.schk s0 20 = 0 := by unfold V4.schk; rw [if_neg (by omega), if_neg (by omega)]
 have hl : ((kts.map vT).length : Int) = 5 := by decide
 simp only
 rw [if_neg (by omega), if_neg (by rw [hl]; omega), e, if_neg (by simp), Int.toNat_natCast]
 have v1 := vchk_int h0 h1
 have v2 := vchk_txt ht
 rcases (by omega : j = 0 ∨ j = 1 ∨ j = 2 ∨ j = 3) with rfl | rfl | rfl | rfl
 . show V4.fit ⟨txt [97], [⟨txt [110], 1⟩]⟩ [⟨1, k, txt []⟩] = 0
   unfold V4.fit
   rw [if_neg (by simp only [ne_eq, Decidable.not_not]; kernel_rfl)]
   simp [V4.fst, V4.vat, V4.kat, v1]
 . show V4.fit ⟨txt [98], [⟨txt [110], 1⟩, ⟨txt [115], 2⟩]⟩ [⟨1, k, txt []⟩, ⟨2, 0, t⟩] = 0
   unfold V4.fit
   rw [if_neg (by simp only [ne_eq, Decidable.not_not]; kernel_rfl)]
   simp [V4.fst, V4.vat, V4.kat, v1, v2]
 . show V4.fit ⟨txt [99], []⟩ [] = 0
   kernel_rfl
 . show V4.fit ⟨txt [100], [⟨txt [110], 1⟩]⟩ [⟨1, k, txt []⟩] = 0
   unfold V4.fit
   rw [if_neg (by simp only [ne_eq, Decidable.not_not]; kernel_rfl)]
   simp [V4.fst, V4.vat, V4.kat, v1]
theorem one_any (kd ty lg nn dl : Int) (tx : ByteArray) (cl : Bool) (w : World) (h1 : -9223372036854775808 ≤ ty) (h2 : ty ≤ 9223372036854775807) (h3 : -9223372036854775808 ≤ lg) (h4 : lg ≤ 9223372036854775807) (h5 : -9223372036854775808 ≤ nn) (h6 : nn ≤ 9223372036854775807) (j : Nat) (hj : pkd ty 4 = (j : Int)) :
  Calls Tryd.prog 7 #[.agg #[.int .i64 kd, .int .i64 ty, .int .i64 lg, .int .i64 nn, .int .i64 dl, .string tx, .bool cl], .int .i64 1] w fun e w' => ∃ (s0 : Int) (t : ByteArray) (u : Value), t.size ≤ 3 ∧ e = .returned (evV ⟨1, (j : Nat), s0, 20, vls j (pkd nn 6) t⟩ u) ∧ 0 ≤ s0 ∧ s0 ≤ 20 ∧ Rd w' (.row 29 3 ((vls j (pkd nn 6) t).map encV)) u ∧ Below w.heap.size w w' := by
 have HIN := hid (fun W => zGU kd ty lg nn dl tx cl W h1 h2 h3 h4 h5 h6 j hj)
 have HPT := hid (fun W => zAM ty 4 W h1 h2 (by decide) (by decide))
 rw [hj] at HPT
 have hB := hp2 (bxs2 w [.int .i64 kd, .int .i64 ty, .int .i64 lg, .int .i64 nn, .int .i64 dl, .string tx, .bool cl] [.int .i64 0, .int .i64 0, .int .i64 0, .int .i64 0, .slice none 0 0] 25 40)
 have HB := hid hB
 have X0 := hid (hB.r 0 (by simp))
 clear h1 h2 h3 h4 h5 h6 hj hB
 go_enter Tryd.func7, Tryd.ntmps7
 go_wp2_with (first
  | ((with_reducible show wpList _ _ _ (Oper.mk (some 7) _ _ _ _ _ :: _) _ _); refine wpList_load_mid (by rfl) 25 _ (by rfl) w.heap.size 0 (by rfl) [.int .i64 kd, .int .i64 ty, .int .i64 lg, .int .i64 nn, .int .i64 dl, .string tx, .bool cl] _ X0.out Tryd.underlying25 rfl (by kernel_rfl) ?_)
  | (go_at_call 12; refine (HIN.out _).mono ?_; rintro e w1 ⟨s0, t, u, ht, rfl, hs1, hs2, hR, hb⟩; obtain ⟨up, un, uc, rfl⟩ := zAB (hR w1 (fun _ _ _ => rfl)); have HF := hid (And.intro ht (And.intro hs1 hs2)); have HR1 := hid hR; have HB1 := hid hb; have HP1 := hid (HB.out.next hb); clear ht hs1 hs2 hR hb)
  | ((with_reducible show wpList _ _ _ (Oper.mk _ (.store 66 _ _) _ _ _ _ :: _) _ _); refine zA5 66 w1.heap.size 0 [.int .i64 0, .string ⟨#[]⟩, .int .i64 0, .int .i64 0, .slice none 0 0, .int .i64 0, .bool false] 66 [.int .i64 1, .string (tyN j), .int .i64 s0, .int .i64 20, .slice up un uc, .int .i64 0, .bool false] (heap_alloc_new _ _) ?_; intro w2 hblk hfr; have hb12 : Below w1.heap.size w1 w2 := zAH hfr; have HW2 : Hid (w2.heap[w1.heap.size]? = some (.cells #[.int .i64 1, .string (tyN j), .int .i64 s0, .int .i64 20, .slice up un uc, .int .i64 0, .bool false] 66 (0, 0))) := hblk; have HP2 := hid (HP1.out.next hb12); have HB2 := hid hb12; have c1 : w2.cell? ⟨w.heap.size, 1, none⟩ = some (.int .i64 ty) := HP2.out.c 0 (by simp) 1; have c4 : w2.cell? ⟨w1.heap.size, 4, none⟩ = some (.slice up un uc) := zAD HW2.out 4; have XS : Hid (w2.rangeAt w1.heap.size 2 [.int .i64 s0, .int .i64 20]) := (fun q v hv => by rw [zAD HW2.out]; rcases q with _ | _ | q <;> simp_all); have HZ := hid (HP2.out.b 1 (by simp)); clear hblk hfr hb12)
  | (go_at_call 4; refine (HPT.out _).mono ?_; rintro e w2 ⟨rfl, rfl⟩)
  | ((with_reducible show wpList _ _ _ (Oper.mk (some 15) _ _ _ _ _ :: _) _ _); refine wpList_load_mid (by rfl) 37 _ (by rfl) w1.heap.size 2 (by rfl) [.int .i64 s0, .int .i64 20] _ XS.out Tryd.underlying37 rfl (by kernel_rfl) ?_)
  | ((with_reducible show wpList _ _ _ (Oper.mk _ (.store 40 _ _) _ _ _ _ :: _) _ _); refine zA5 40 (w.heap.size + 1) 0 [.int .i64 0, .int .i64 0, .int .i64 0, .int .i64 0, .slice none 0 0] 40 [.int .i64 1, .int .i64 (j : Nat), .int .i64 s0, .int .i64 20, .slice up un uc] HZ.out ?_; intro w3 hblk hfr; have HW3 := hid hblk; have HF3 := hid hfr; have HBE : Hid (Below w.heap.size w w3) := zAO HP2.out.bel hfr (by omega); clear hblk hfr))
 have hsz : (w.heap.size + 2) ≤ w1.heap.size := by have := HB1.out.size; simpa using this
 have HRF : Hid (Rd w3 (.row 29 3 ((vls j (pkd nn 6) t).map encV)) (.slice up un uc)) := HR1.out w3 fun i q1 q2 => by
  have q3 : w.heap.size + 2 ≤ i := by simpa using q1
  rw [HF3.out.block i (Nat.lt_of_lt_of_le q2 HB2.out.size) (by omega)]
  exact HB2.out.block i q2
 exact zAU (w.heap.size + 1) [.int .i64 1, .int .i64 (j : Nat), .int .i64 s0, .int .i64 20, .slice up un uc] 40 _ HW3.out rfl rfl (by rfl) Tryd.underlying40 rfl (by kernel_rfl) ⟨s0, t, _, HF.out.1, rfl, HF.out.2.1, HF.out.2.2, HRF.out, HBE.out⟩
theorem hz0 : (txt []).size ≤ maxLen := by decide
theorem zA7 (k : Int) (a b : Opd) (ha : a.va = txt []) (hb : b.va = txt []) : Wsz (cmpC k a b) := .mk _ [] rfl (by show a.va.size ≤ maxLen; rw [ha]; exact hz0) (by show b.va.size ≤ maxLen; rw [hb]; exact hz0) (fun x hx => by cases hx)
theorem zCF (k : Int) (l : List Cn) (h : ∀ x, x ∈ l → Wsz x) : Wsz (grpC k l) := .mk _ l rfl hz0 hz0 h
theorem wsz_whC (co at_ : Nat) (k : Int) (ot : Opd) (ho : ot.va = txt []) : Wsz (whC co at_ k ot) := by
 have h0 : Wsz cn0 := zA7 0 opd0 opd0 rfl rfl
 unfold whC
 split
 . exact h0
 . split
   . exact zA7 _ _ _ rfl rfl
   . split
     . exact zA7 _ _ _ rfl ho
     . split
       . exact zA7 _ _ _ rfl ho
       . split
         . refine zCF _ _ fun x hx => ?_
           simp at hx
           rcases hx with rfl | rfl
           . exact zA7 _ _ _ rfl rfl
           . exact zA7 _ _ _ rfl rfl
         . split
           . refine zCF _ _ fun x hx => ?_
             simp at hx
             rcases hx with rfl | rfl
             . exact zA7 _ _ _ ho rfl
             . refine zCF _ _ fun y hy => ?_
               simp at hy
               subst hy
               exact zA7 _ _ _ rfl rfl
           . split
             . split
               . exact zA7 _ _ _ rfl rfl
               . exact zA7 _ _ _ rfl ho
             . exact h0
theorem wsz_whN (co at_ : Nat) (k : Int) : Wsz (whN co at_ k) := by
  unfold whN
  split
  . exact zA7 _ _ _ rfl rfl
  . exact wsz_whC _ _ _ _ rfl
theorem wsz_cds (c : Cn) (h : Wsz c) (q : Nat) : Wsz (cds c q) := by
 have hn : Wsz (ntC c) := zCF _ _ fun x hx => by simp at hx; subst hx; exact h
 have h2 : ∀ x, x ∈ [c, ntC c] → Wsz x := fun x hx => by
   simp at hx
   rcases hx with rfl | rfl
   . exact h
   . exact hn
 unfold cds
 split
 . exact h
 . split
   . exact hn
   . split
     . exact zCF _ _ h2
     . exact zCF _ _ h2
theorem szr_rlN (j : Nat) (c : Cn) (h : Wsz c) : Szr (rlN j c) := ⟨fun t ht => by
    have ht' : t ∈ [(⟨txt [120], tyN j, c, 0, 0⟩ : Pt)] := ht
    simp at ht'
    subst ht'
    exact h, fun t ht => (by cases ht), fun t ht => (by cases ht), fun t ht => (by cases ht), fun t ht => (by cases ht)⟩
theorem tkr_cds {j co k0 q : Nat} (hj : j < 4) (hco : co < 9) (hk : k0 < 6) (hq : q < 4) (x : Ev) (hx : evk kts x = 0) (hxt : x.t = (j : Int)) : tkr kts [rlN j (cds (whN co j (k0 : Nat)) q)] 0 0 0 x [] = (hld kts [] x [] 8 (cds (whN co j (k0 : Nat)) q), 0) := by
  unfold tkr
  rw [if_neg (fun c => c (bok_cds j hj co hco k0 hk q hq)), if_neg (by simp)]
  have e1 : prt 0 ([rlN j (cds (whN co j (k0 : Nat)) q)].getD (0 : Int).toNat r0) = [⟨txt [120], tyN j, cds (whN co j (k0 : Nat)) q, 0, 0⟩] := by unfold prt; rw [if_pos rfl]; rfl
  have e2 : asq 0 (0 : Int).toNat ([rlN j (cds (whN co j (k0 : Nat)) q)].getD (0 : Int).toNat r0).w = [] := by unfold asq; rw [if_pos rfl]; rfl
  rw [e1, e2, if_neg (by simp), if_neg (fun c => c hx), if_neg (fun c => c rfl), if_neg (fun c => c rfl)]
  show (tkb kts [] x [] ⟨txt [120], tyN j, cds (whN co j (k0 : Nat)) q, 0, 0⟩, (0 : Int)) = _
  unfold tkb
  rw [hxt, Int.toNat_natCast]
  have e3 : seq (kts.getD j dT).n (tyN j) = true := by rcases (by omega : j = 0 ∨ j = 1 ∨ j = 2 ∨ j = 3) with rfl | rfl | rfl | rfl <;> kernel_rfl
  simp only [e3, Bool.true_and]
theorem Tys.fr {W W' : World} {b c : Nat} {cs : Array Value} (h : Tys W b) (hf : Fr (fun i => i = c) W W') (hc : W.heap[c]? = some (.cells cs 58 (0, 0))) : Tys W' b := by
 obtain ⟨h0, h1, h2, h3, h4⟩ := h
 have ne : ∀ (i : Nat) (ds : Array Value) (t : TypeId), t ≠ 58 → W.heap[i]? = some (.cells ds t (0, 0)) → W'.heap[i]? = some (.cells ds t (0, 0)) := fun i ds t ht hi => (hf.block i (zAE hi) (fun e => by
  rw [e, hc] at hi
  simp at hi
  exact ht hi.2.symm)).trans hi
 exact ⟨ne _ _ _ (by decide) h0, ne _ _ _ (by decide) h1, ne _ _ _ (by decide) h2, ne _ _ _ (by decide) h3, ne _ _ _ (by decide) h4⟩
def ckc (E K : Int) : Int := if E ≠ 0 then E else K
theorem ckc_1 {E K : Int} (h : E ≠ 0) : ckc E K = E := if_pos h
theorem ckc_0 {E K : Int} (h : E = 0) : ckc E K = K := if_neg (fun c => c h)
theorem zE0 (ts : List Tp) (ws : List Pt) (kn : List Ev) (tv wv kv : Value) (w : World) (hT : Rd w (.row 72 2 (ts.map encY)) tv) (hrw : Rd w (.row 47 18 (ws.map encP)) wv) (hK : Rd w (.row 40 5 (kn.map encX)) kv) :
  Calls Tryd.prog 17 #[tv, wv, kv] w fun e w' => e = .returned (.int .i64 (ckc (efs ts kn) (knk ts ws kn))) ∧ Below w.heap.size w w' := by
 have hCk := fun (y : Ev) (yv : Value) W (hW : Below w.heap.size w W) (hy : Rd W (.row 29 3 (y.v.map encV)) yv) => zCK ts y tv yv W (hT.later hW) hy
 have HIS := hid (fun (x : Ev) (u : Value) (B : List Value) (pty : ByteArray) W (hW : Below w.heap.size w W) hus hA i hi hx => isOf_s ts tv x u B pty W (hT.later hW) hus hA i hi hx)
 obtain ⟨E, hE⟩ : ∃ E, efs ts kn = E := ⟨_, rfl⟩
 have HEV0 : Hid (E = 0 → ∀ x, x ∈ kn → evk ts x = 0) := fun h => zFP kn (hE.trans h)
 obtain ⟨tp, tn, tc, rfl⟩ := zAB hT
 obtain ⟨wp, wc, rfl, hmw, hatw⟩ := zAG lenP hrw
 have HK := hid hK
 obtain ⟨kp, kc, rfl, hmx, hatk⟩ := zAG lenX hK
 have HAW : Hid (At encP 18 w wp ws) := hatw
 have HAK : Hid (At encX 5 w kp kn) := hatk
 obtain ⟨n, hnl⟩ : ∃ n, kn.length = n := ⟨_, rfl⟩
 obtain ⟨m, hml⟩ : ∃ m, ws.length = m := ⟨_, rfl⟩
 have HN := hid hnl
 have HM := hid hml
 rw [hnl] at hmx HK ⊢
 rw [hml] at hmw ⊢
 obtain ⟨K0, hK0⟩ : ∃ K, knk ts ws kn = K := ⟨_, rfl⟩
 have HK0 := hid hK0
 rw [hE, hK0]
 have HR := hid hE
 have HCK := hid hCk
 clear hT hrw hK hE hK0 hnl hml hCk hatw hatk
 go_enter Tryd.func17, Tryd.ntmps17
 go_wp2_with fail
 go_loopg [14] (n + 1) (fun gg i wr => ∃ k : Nat, k ≤ n ∧ gg = n + 1 - k ∧ i = .int .i64 (k : Nat) ∧ efs ts (kn.drop k) = E ∧ Below w.heap.size w wr)
 case atStart => exact ⟨0, by omega, by omega, rfl, by simpa using HR.out, Below.refl _ _⟩
 case round =>
  obtain ⟨k, hk, rfl, rfl, hev, hB⟩ := hrel
  have HB := hid hB
  by_cases hlt : k < n
  . have hkc : k < kn.length := by have := HN.out; omega
    obtain ⟨p', cap', e0, _, hat⟩ := zAG lenX (HK.out.later hB)
    simp only [Value.slice.injEq] at e0
    obtain ⟨e01, hx0, e02⟩ := e0
    obtain ⟨g, off, e03, hrd⟩ := hat (by omega)
    obtain ⟨A, r1, o1⟩ := hrd wr (Below.refl _ _) k hkc
    obtain ⟨yv, z1, o2⟩ := rdX o1
    obtain ⟨a1, a2, a3, hu1⟩ := zAB o2
    obtain rfl : kp = some ⟨g, off, none⟩ := e01.trans e03
    have hAz : A.length = 5 := o1.1.symm
    rw [List.drop_eq_getElem_cons hkc, efs] at hev
    have hcall := fun W (hW : Below wr.heap.size wr W) => HCK.out kn[k] yv W (zAA hB hW hB.size) (o2.later hW)
    obtain ⟨e9, he9⟩ : ∃ e9, evk ts kn[k] = e9 := ⟨_, rfl⟩
    rw [he9] at hcall hev
    have HCM : Hid (∀ W, Below wr.heap.size wr W → Calls Tryd.prog 15 #[.slice tp tn tc, .agg A.toArray] W fun e w' => e = .returned (.int .i64 e9) ∧ Below W.heap.size W w') := fun W hW => by rw [z1]; exact hcall W hW
    have HAO : Hid (A.all (·.oneCell') = true) := by show _ = _; rw [z1, hu1]; rfl
    have ZA : Hid ((Tryd.prog.info? 40).map (·.size) = some A.length) := by show _ = _; rw [hAz]; kernel_rfl
    have HAL := hid hAz
    have X1_ := hid r1
    have HEV := hid hev
    have i1 : (0 : Int) ≤ (k : Int) := by omega
    have i2 : (k : Int) < (n : Int) := by omega
    clear hB hat hrd r1 o1 hAz hev hx0 hcall he9 z1 hu1 o2 e01 e02 e03
    go_wp2_with (first
      | ((with_reducible refine gLq ?_); refine wpList_load_mid (by rfl) 40 _ (by rfl) g (off + k * 5) (by rfl) A _ X1_.out Tryd.underlying40 rfl ZA.out ?_)
      | ((with_reducible refine gSq ?_); refine zBA (by rfl) 40 _ _ (by rfl) wr.heap.size 0 _ 40 (.agg A.toArray) A (by rfl) (by rfl) (by rfl) (heap_alloc_new _ _) (by have := HAL.out; simp; omega) ZA.out HAO.out ?_; intro w1 hblk hfr; rw [zAY (by rw [HAL.out]; rfl)] at hblk; have XB : Hid (w1.rangeAt wr.heap.size 0 A) := zAJ hblk; have HBK := hid hblk; have HBW : Hid (Below wr.heap.size wr w1) := zAH hfr; clear hblk hfr)
      | ((with_reducible refine gLq ?_); refine wpList_load_mid (by rfl) 40 _ (by rfl) wr.heap.size 0 (by rfl) A _ XB.out Tryd.underlying40 rfl ZA.out ?_))
    refine (HCM.out _ HBW.out).mono ?_
    rintro e w2 ⟨rfl, hb2⟩
    have HB2 := hid (zAA HB.out (zAA HBW.out hb2 HBW.out.size) HB.out.size)
    clear hb2
    by_cases hz : e9 = 0
    . have HE2 := HEV.out
      rw [if_neg (fun c => c hz)] at HE2
      have HE3 := hid HE2
      subst hz
      clear HE2
      go_wp2_with fail
      go_roundg (n + 1 - (k + 1))
      case rel => exact ⟨k + 1, by omega, rfl, by go_num, HE3.out, HB2.out⟩
      case measure => omega
    . have HE2 : Hid (E = e9) := by have h := HEV.out; rw [if_pos hz] at h; exact h.symm
      have d9 : (e9 != 0) = true := by simpa using hz
      have hz' := hz
      clear hz
      go_wp2_with fail
      go_ret
      exact ⟨zAC (by rw [HE2.out, ckc_1 hz']), HB2.out⟩
  . obtain rfl : n = k := by omega
    have hd : kn.drop n = [] := List.drop_of_length_le (by have := HN.out; omega)
    rw [hd, efs] at hev
    have HE2 : Hid (E = 0) := hev.symm
    have HEV := hid (HEV0.out HE2.out)
    have HZ0 : Hid (ckc E K0 = K0) := ckc_0 HE2.out
    clear hev hd hB HR HCK HK HEV0
    by_cases hne : n = m
    . subst hne
      have HR : Hid (kfs ts kn ws = K0) := by have h := HK0.out; unfold knk at h; rw [if_neg (fun c => c (by rw [HN.out, HM.out]))] at h; exact h
      clear HK0
      go_wp2_with fail
      go_loopg [32] (n + 1) (fun gg i wr => ∃ k : Nat, k ≤ n ∧ gg = n + 1 - k ∧ i = .int .i64 (k : Nat) ∧ kfs ts (kn.drop k) (ws.drop k) = K0 ∧ Below w.heap.size w wr)
      case atStart => exact ⟨0, by omega, by omega, rfl, by simpa using HR.out, HB.out⟩
      case round =>
       obtain ⟨k, hk, rfl, rfl, hkf, hT⟩ := hrel
       have HT := hid hT
       by_cases hlt : k < n
       . have hkc : k < kn.length := by have := HN.out; omega
         have hwc : k < ws.length := by have := HM.out; omega
         obtain ⟨g, off, e03, hrd⟩ := HAK.out (by omega)
         obtain ⟨A, r1, o1⟩ := hrd wr hT k hkc
         obtain ⟨yv, z1, o2⟩ := rdX o1
         obtain ⟨a1, a2, a3, hu1⟩ := zAB o2
         obtain ⟨g2, off2, e13, hrd2⟩ := HAW.out (by omega)
         obtain ⟨A2, r2, o3⟩ := hrd2 w (Below.refl _ _) k hwc
         obtain ⟨vc, z2, _⟩ := rdP o3
         subst e03 e13
         have hAz : A.length = 5 := o1.1.symm
         have hAz2 : A2.length = 18 := o3.1.symm
         obtain ⟨i, hi, ei, m1, m2⟩ := zE3 (HEV.out _ (List.getElem_mem hkc))
         clear m1 m2
         have et : ts.getD kn[k].t.toNat dT = ts[i] := by rw [ei, Int.toNat_natCast]; exact zA1 hi _
         rw [List.drop_eq_getElem_cons hkc, List.drop_eq_getElem_cons hwc, kfs, et] at hkf
         have hcall := fun W (hW : Below w.heap.size w W) => HIS.out kn[k] yv A2 ws[k].ty W hW ⟨_, _, _, hu1⟩ (by rw [z2]; rfl) i hi ei
         obtain ⟨q9, hq9⟩ : ∃ q, seq ts[i].n ws[k].ty = q := ⟨_, rfl⟩
         rw [hq9] at hcall hkf
         have HI1 : Hid (∀ W, Below w.heap.size w W → Calls Tryd.prog 25 #[.slice tp tn tc, .agg A.toArray, .agg A2.toArray] W fun e w' => e = .returned (.bool q9) ∧ Below W.heap.size W w') := fun W hW => by rw [z1]; exact hcall W hW
         have HAO : Hid (A.all (·.oneCell') = true) := by show _ = _; rw [z1, hu1]; rfl
         have ZA : Hid ((Tryd.prog.info? 40).map (·.size) = some A.length) := by show _ = _; rw [hAz]; kernel_rfl
         have ZA2 : Hid ((Tryd.prog.info? 47).map (·.size) = some A2.length) := by show _ = _; rw [hAz2]; kernel_rfl
         have HAL := hid hAz
         have X1_ := hid r1
         have X2_ := hid r2
         have HKF := hid hkf
         have i1 : (0 : Int) ≤ (k : Int) := by omega
         have i2 : (k : Int) < (n : Int) := by omega
         clear hT hrd hrd2 r1 r2 o1 o3 hAz hAz2 hkf hcall hq9 z1 z2 hu1 o2 et ei hi
         go_wp2_with (first
          | ((with_reducible refine gLq ?_); refine wpList_load_mid (by rfl) 40 _ (by rfl) g (off + k * 5) (by rfl) A _ X1_.out Tryd.underlying40 rfl ZA.out ?_)
          | ((with_reducible refine gSq ?_); refine zBA (by rfl) 40 _ _ (by rfl) wr.heap.size 0 _ 40 (.agg A.toArray) A (by rfl) (by rfl) (by rfl) (heap_alloc_new _ _) (by have := HAL.out; simp; omega) ZA.out HAO.out ?_; intro w1 hblk hfr; rw [zAY (by rw [HAL.out]; rfl)] at hblk; have XB : Hid (w1.rangeAt wr.heap.size 0 A) := zAJ hblk; have HBK := hid hblk; have HBW : Hid (Below wr.heap.size wr w1) := zAH hfr; clear hblk hfr))
         have HT1 := hid (zAA HT.out HBW.out HT.out.size)
         have HIO := hid (fun W (hW : Below w1.heap.size w1 W) => HI1.out W (zAA HT1.out hW HT1.out.size))
         have HS6 : Hid (∀ W, Below w1.heap.size w1 W → (W.rangeAt wr.heap.size 0 A ∧ W.rangeAt g2 (off2 + k * 18) A2)) := fun W hW => ⟨zAP XB.out hW, zAP X2_.out (zAA HT1.out hW HT1.out.size)⟩
         refine zBG (S := (fun w' => w'.rangeAt wr.heap.size 0 A ∧ w'.rangeAt g2 (off2 + k * 18) A2)) 8 #[false, false, false, false, false, false, false, false] rfl rfl (by kernel_rfl) (HS6.out _ (Below.drew (Below.refl _ _))) (fun hHeld => ?_)
         refine tkq (i := 0) (v := ?v1) rfl ?hy1 ?rest1; (case hy1 => intro w0 hSw; (try dsimp only at hSw); go_simp <;> (try (with_reducible rfl))); (try simp only [puts])
         refine tkq (i := 2) (v := ?v2) rfl ?hy2 ?rest2; (case hy2 => intro w0 hSw; (try dsimp only at hSw); go_simp <;> (try (with_reducible rfl))); (try simp only [puts])
         refine tkq (i := 3) (v := ?v3) rfl ?hy3 ?rest3; (case hy3 => intro w0 hSw; (try dsimp only at hSw); go_simp <;> (try (with_reducible rfl))); (try simp only [puts])
         refine tkq (i := 4) (v := ?v4) rfl ?hy4 ?rest4; (case hy4 => intro w0 hSw; (try dsimp only at hSw); go_simp <;> (try (with_reducible rfl))); (try simp only [puts])
         refine tlq (i := 1) rfl (yieldsIf_load_mid (by rfl) 40 _ rfl wr.heap.size (0) (by rfl) A _ (fun _ h => h.1) Tryd.underlying40 rfl ZA.out) ?_
         (try simp only [puts])
         refine tlq (i := 5) rfl (yieldsIf_load_mid (by rfl) 47 _ rfl g2 (off2 + k * 18) (by rfl) A2 _ (fun _ h => h.2) Tryd.underlying47 rfl ZA2.out) ?_
         (try simp only [puts])
         refine wpAnyH_ready (rs := [6]) (by kernel_rfl) (by simp) ?_
         refine zAQ rfl (fun K hK => ?_) AllReadyH.nil
         refine zCD 25 ent_isof (by rfl) _ _ _ _ (by rfl) (.slice tp tn tc) (.agg A.toArray) (.agg A2.toArray) (by rfl) (by rfl) (by rfl) _ (HIO.out _ (Below.drew (Below.refl _ _))) ?_
         rintro e w3 ⟨rfl, hb3⟩
         refine ⟨_, rfl, ?_⟩
         have HB3 : Hid (Below w1.heap.size w1 w3) := zAA (Below.drew (Below.refl _ _)) hb3 (Nat.le_refl _)
         clear hb3
         refine hK.out _ _ (HS6.out _ HB3.out) (fun hHeld => ?_)
         clear hK K
         (try simp only [puts])
         refine tkq (i := 7) (v := ?v5) rfl ?hy5 ?rest5; (case hy5 => intro w0 hSw; (try dsimp only at hSw); go_simp <;> (try (with_reducible rfl))); (try simp only [puts])
         refine wpAnyH_done (by kernel_rfl) ?_ _
         have HT3 := hid (zAA HT1.out HB3.out HT1.out.size)
         clear HS6 HIO HI1 HT1
         cases q9 with
         | true =>
          have HE3 : Hid (kfs ts (kn.drop (k + 1)) (ws.drop (k + 1)) = K0) := by have h := HKF.out; rw [if_pos rfl] at h; exact h
          go_wp2_with fail
          go_roundg (n + 1 - (k + 1))
          case rel => exact ⟨k + 1, by omega, rfl, by go_num, HE3.out, HT3.out⟩
          case measure => omega
         | false =>
          have HE3 : Hid (K0 = 13) := by have h := HKF.out; rw [if_neg (by decide)] at h; exact h.symm
          go_wp2_with fail
          go_ret
          exact ⟨zAC (by rw [HZ0.out]; exact HE3.out.symm), HT3.out⟩
       . obtain rfl : k = n := by omega
         have hd : kn.drop k = [] := List.drop_of_length_le (by have := HN.out; omega)
         rw [hd, kfs] at hkf
         have HE2 : Hid (K0 = 0) := hkf.symm
         clear hkf hd hT
         go_wp2_with fail
         go_ret
         exact ⟨zAC (by rw [HZ0.out]; exact HE2.out.symm), HT.out⟩
         all_goals (intro x r p q h; cases h)
    . have d9 : ((n : Int) != (m : Int)) = true := by simp; omega
      have d8 : ¬ (n : Int) = (m : Int) := by omega
      have d7 : (n = m) = False := by simp [hne]
      have HK4 : Hid (K0 = 4) := by have h := HK0.out; unfold knk at h; rw [if_pos (fun c => hne (by rw [← HN.out, ← HM.out]; exact c))] at h; exact h.symm
      clear HK0 hne
      go_wp2_with fail
      go_ret
      exact ⟨zAC (by rw [HZ0.out]; exact HK4.out.symm), HB.out⟩
theorem ckc_ok {E K : Int} (h : ckc E K = 0) : E = 0 ∧ K = 0 := by
  by_cases h1 : E = 0
  . rw [ckc_0 h1] at h; exact ⟨h1, h⟩
  . rw [ckc_1 h1] at h; exact absurd h h1
theorem zFQ (ts : List Tp) (rs : List Rl) (hzz : ∀ r, r ∈ rs → Szr r) (tv rv : Value) (rule part at_ : Int) (x : Ev) (u : Value) (kn : List Ev) (kv : Value) (w : World) (hT : Rd w (.row 72 2 (ts.map encY)) tv) (hR : Rd w (.row 55 7 (rs.map encR)) rv) (htk : Tab w 0 kpl) (htr : Tab w 1 rll) (hu : Rd w (.row 29 3 (x.v.map encV)) u) (hK : Rd w (.row 40 5 (kn.map encX)) kv) (hb : bok ts rs = 0) (k : Nat) (hk : k < rs.length) (hr : rule = (k : Int)) (R : Bool × Int) (hRR : tkr ts rs rule part at_ x kn = R) : Calls Tryd.prog 9 #[.agg #[tv, rv], .int .i64 rule, .int .i64 part, .int .i64 at_, evV x u, kv] w fun e w' => e = .returned (.tuple #[.bool (R.1), .int .i64 (R.2)]) ∧ Below w.heap.size w w' := by
 obtain ⟨hts, hrs⟩ := bok_zero hb
 have hty : ∀ i (hi : i < ts.length), tyk ts[i].n ts[i].f = 0 := fun i hi => zFD ts [] hts _ (List.getElem_mem hi)
 have hrk := zCX rs [] hrs _ (List.getElem_mem hk)
 have hds := dst_of hts
 have hszr := hzz _ (List.getElem_mem hk)
 have hgd : rs.getD rule.toNat r0 = rs[k] := by rw [hr, Int.toNat_natCast]; exact zA1 hk _
 unfold tkr at hRR
 rw [if_neg (fun c => c hb), if_neg (fun c => c (by omega)), hgd] at hRR
 subst hr
 have HCH := hid (fun W (hW : Below w.heap.size w W) => check_any ts rs hzz tv rv W (hT.later hW) (hR.later hW) (zAI htk hW) (zAI htr hW))
 obtain ⟨tp, tc, htv, _, _⟩ := zAG lenY hT
 obtain ⟨rp, rc, hrv, hmr, _⟩ := zAG lenR hR
 obtain ⟨up, un, uc, huv⟩ := zAB hu
 obtain ⟨kp, kn2, kc, hkv⟩ := zAB hK
 rw [hb] at HCH
 obtain ⟨g, off, A, hrg, hA⟩ : ∃ g off A, rp = some ⟨g, off, none⟩ ∧ (∀ W, Below w.heap.size w W → W.rangeAt g (off + k * 7) A) ∧ RdL w (encR rs[k]) A := by
   obtain ⟨p, cap, e0, _, hat⟩ := zAG lenR hR
   obtain ⟨g, off, rfl, hrd⟩ := hat (by omega)
   obtain ⟨A, r1, o1⟩ := hrd w (Below.refl _ _) k hk
   rw [hrv] at e0
   simp only [Value.slice.injEq] at e0
   exact ⟨g, off, A, e0.1, fun W hW => zAP r1 hW, o1⟩
 obtain ⟨v1, v2, v3, v4, v5, z1, o1, o2, o3, o4, o5⟩ := rdR hA.2
 obtain ⟨a1, a2, a3, hu1⟩ := zAB o1
 obtain ⟨b1, b2, b3, hu2⟩ := zAB o2
 obtain ⟨d1, d2, d3, hu3⟩ := zAB o3
 obtain ⟨f1, f2, f3, hu4⟩ := zAB o4
 obtain ⟨g1, g2, g3, hu5⟩ := zAB o5
 have hAz : A.length = 7 := hA.2.1.symm
 have HAO : Hid (A.all (·.oneCell') = true) := by show _ = _; rw [z1, hu1, hu2, hu3, hu4, hu5]; rfl
 have ZA : Hid ((Tryd.prog.info? 55).map (·.size) = some A.length) := by show _ = _; rw [hAz]; kernel_rfl
 have HAL := hid hAz
 have hm100 : rs[k].m.length ≤ 100 := by have h := (zE2 hrk).2; unfold szs at h; omega
 have HPT : Hid (∀ W, Below w.heap.size w W → Calls Tryd.prog 14 #[.agg A.toArray, .int .i64 part] W fun e w' => ∃ v, e = .returned v ∧ Rd w' (.row 47 18 ((prt part rs[k]).map encP)) v ∧ Below W.heap.size W w') := fun W hW => by
   rw [z1]
   exact patS_any rs[k] v1 v2 v3 v4 v5 W (o1.later hW) (o2.later hW) (o3.later hW) (o4.later hW) (o5.later hW) hm100 part
 have HAS0 : Hid (∀ (j : Nat), (part = 0 → j ≤ rs[k].w.length) → ∀ W, Below w.heap.size w W → Calls Tryd.prog 16 #[.agg A.toArray, .int .i64 part, .int .i64 (j : Nat)] W fun e w' => ∃ v, e = .returned v ∧ Rd w (.row 47 18 ((asq part j rs[k].w).map encP)) v ∧ Below W.heap.size W w') := fun j hj W hW => by
   rw [z1]
   exact (asked_s rs[k] v1 v2 v3 v4 v5 W (o1.later hW) (o2.later hW) (o3.later hW) (o4.later hW) (o5.later hW) part j j (fun h => ⟨rfl, hj h⟩)).mono fun e w' ⟨v, e1, e2, e3⟩ => ⟨v, e1, e2 w o1, e3⟩
 have HCE := hid (fun W (hW : Below w.heap.size w W) => zCK ts x tv u W (hT.later hW) (hu.later hW))
 have HCK0 := hid (fun (j : Nat) (av : Value) (ha : Rd w (.row 47 18 ((asq part j rs[k].w).map encP)) av) W (hW : Below w.heap.size w W) => zE0 ts (asq part j rs[k].w) kn tv av kv W (hT.later hW) (ha.later hW) (hK.later hW))
 have HTA0 := hid (fun (j : Nat) (hj : j < (prt part rs[k]).length) (av : Value) (hx : evk ts x = 0) (hkn : Kok ts (asq part j rs[k].w) kn) (ha : Rd w (.row 47 18 ((asq part j rs[k].w).map encP)) av) W (hW : Below w.heap.size w W) (PA : List Value) (hPA : RdL W (encP (prt part rs[k])[j]) PA) => takes_s ts (asq part j rs[k].w) x kn tv u av kv ⟨hty, hx, hkn⟩ hds (prt part rs[k])[j] (rck_pok hrk hj) (szr_prt hszr hj) PA W ⟨hT.later hW, hu.later hW, ha.later hW, hK.later hW⟩ hPA)
 obtain ⟨E1, hE1⟩ : ∃ E, evk ts x = E := ⟨_, rfl⟩
 have hz1 : E1 = 0 → evk ts x = 0 := fun h => hE1.trans h
 have hz2 : ∀ (K : Int) (c : Bool × Int), (if efs ts kn ≠ 0 then (false, efs ts kn) else if K ≠ 0 then (false, K) else c) = if ckc (efs ts kn) K ≠ 0 then (false, ckc (efs ts kn) K) else c := fun K c => by
   by_cases h1 : efs ts kn = 0
   . rw [if_neg (fun d => d h1), ckc_0 h1]
   . rw [if_pos h1, ckc_1 h1, if_pos h1]
 rw [hE1] at HCE
 rw [hz2, hE1] at hRR
 have HZ1 := hid hz1
 have HDS := hid hds
 have HRR := hid hRR
 clear hE1 hz1 hz2
 have HXR := hid hA.1
 clear o1 o2 o3 o4 o5 hu1 hu2 hu3 hu4 hu5 z1 hAz hm100 hA hgd hszr hrk hty hts hrs hb hds hRR
 subst htv huv hkv
 rw [hrg] at hrv
 subst hrv
 obtain ⟨xn, xt, xs, xe, xv⟩ := x
 simp only [evV, snV] at HCE HCK0 HTA0 HCH HZ1 ⊢
 obtain ⟨tn, htn⟩ : ∃ n, ts.length = n := ⟨_, rfl⟩
 obtain ⟨rn, hrn⟩ : ∃ n, rs.length = n := ⟨_, rfl⟩
 rw [htn] at HCH HCE HCK0 HTA0 ⊢
 rw [hrn] at HCH hk ⊢
 have hB : Bxs w ((w.alloc (.cells #[.slice tp tn tc, .slice (some ⟨g, off, none⟩) rn rc] 58)).alloc (.cells #[.int .i64 xn, .int .i64 xt, .int .i64 xs, .int .i64 xe, .slice up un uc] 40)) [([.slice tp tn tc, .slice (some ⟨g, off, none⟩) rn rc], 58), ([.int .i64 xn, .int .i64 xt, .int .i64 xs, .int .i64 xe, .slice up un uc], 40)] := bxs2 w _ _ _ _
 have HB := hid hB
 have i1 : (0 : Int) ≤ (k : Int) := by omega
 have i2 : (k : Int) < (rn : Int) := by omega
 have y1 : decide ((k : Int) < 0) = false := by simp
 have y2 : decide ((k : Int) ≥ (rn : Int)) = false := by simp; omega
 clear hT hR htk htr hu hK hzz hB hmr htn hrn hrg
 go_enter Tryd.func9, Tryd.ntmps9
 go_wp2_with fail
 refine (HCH.out _ HB.out.bel).mono ?_
 rintro e w1 ⟨rfl, hb1⟩
 have HB1 := hid (HB.out.next hb1)
 have c0 : w1.cell? ⟨w.heap.size, 0, none⟩ = some (.slice tp tn tc) := HB1.out.c 0 (by simp) 0
 have c1 : w1.cell? ⟨w.heap.size, 1, none⟩ = some (.slice (some ⟨g, off, none⟩) rn rc) := HB1.out.c 0 (by simp) 1
 have X1_ := hid (HXR.out w1 HB1.out.bel)
 clear hb1 HCH HB
 go_wp2_with (first
   | ((with_reducible refine gLq ?_); refine wpList_load_mid (by rfl) 55 _ (by rfl) g (off + k * 7) (by rfl) A _ X1_.out Tryd.underlying55 rfl ZA.out ?_)
   | ((with_reducible refine gSq ?_); refine zBA (by rfl) 55 _ _ (by rfl) w1.heap.size 0 _ 55 (.agg A.toArray) A (by rfl) (by rfl) (by rfl) (heap_alloc_new _ _) (by have := HAL.out; simp; omega) ZA.out HAO.out ?_; intro w2 hblk hfr; rw [zAY (by rw [HAL.out]; rfl)] at hblk; have XB : Hid (w2.rangeAt w1.heap.size 0 A) := zAJ hblk; have HBW : Hid (Below w1.heap.size w1 w2) := zAH hfr; have HX2 : Hid (Tkx w w2 [.slice tp tn tc, .slice (some ⟨g, off, none⟩) rn rc] [.int .i64 xn, .int .i64 xt, .int .i64 xs, .int .i64 xe, .slice up un uc] w1.heap.size A) := ⟨HB1.out.next HBW.out, hblk⟩; clear hblk hfr)
   | ((with_reducible refine gLq ?_); refine wpList_load_mid (by rfl) 55 _ (by rfl) w1.heap.size 0 (by rfl) A _ XB.out Tryd.underlying55 rfl ZA.out ?_))
 refine (HPT.out _ HX2.out.bx.bel).mono ?_
 rintro e w3 ⟨pv, rfl, hrd3, hb3⟩
 obtain ⟨pp, pc, rfl, hpx, hat3⟩ := zAG lenP hrd3
 have HX3 := hid (HX2.out.next hb3)
 obtain ⟨rb, hrb⟩ : ∃ rb, w1.heap.size = rb := ⟨_, rfl⟩
 rw [hrb] at HX3
 have HAT3 := hid hat3
 obtain ⟨np, hnp⟩ : ∃ np, (prt part rs[k]).length = np := ⟨_, rfl⟩
 have HNP := hid hnp
 rw [hnp] at hpx HRR ⊢
 rw [hrb]
 clear hrd3 hb3 hat3 hnp hrb c0 c1 X1_ HPT XB HBW HX2 HB1
 by_cases hat : 0 ≤ at_ ∧ at_ < (np : Int)
 . obtain ⟨j, rfl⟩ : ∃ j : Nat, at_ = (j : Int) := ⟨at_.toNat, by omega⟩
   have hjn : j < np := by omega
   have hjl : j < (prt part rs[k]).length := by rw [HNP.out]; exact hjn
   have HR1 := HRR.out
   rw [if_neg (fun c => c hat)] at HR1
   have HR2 := hid HR1
   have z1 : decide ((j : Int) < 0) = false := by simp
   have z2 : decide ((j : Int) ≥ (np : Int)) = false := by simp; omega
   have i3 : (0 : Int) ≤ (j : Int) := by omega
   have i4 : (j : Int) < (np : Int) := by omega
   have c0 : w3.cell? ⟨w.heap.size, 0, none⟩ = some (.slice tp tn tc) := HX3.out.bx.c 0 (by simp) 0
   have XX := hid (HX3.out.bx.r 1 (by simp))
   clear HR1 hat HRR
   go_wp2_with ((with_reducible refine gLq ?_); refine wpList_load_mid (by rfl) 40 _ (by rfl) (w.heap.size + 1) 0 (by rfl) [.int .i64 xn, .int .i64 xt, .int .i64 xs, .int .i64 xe, .slice up un uc] _ XX.out Tryd.underlying40 rfl (by kernel_rfl) ?_)
   refine (HCE.out _ HX3.out.bx.bel).mono ?_
   rintro e w4 ⟨rfl, hb4⟩
   have HX4 := hid (HX3.out.next hb4)
   have HB34 := hid hb4
   clear hb4 c0 XX HCE
   obtain ⟨K2, hK2⟩ : ∃ K, ckc (efs ts kn) (knk ts (asq part j rs[k].w) kn) = K := ⟨_, rfl⟩
   obtain ⟨t2, ht2⟩ : ∃ t, tkb ts (asq part j rs[k].w) ⟨xn, xt, xs, xe, xv⟩ kn (prt part rs[k])[j] = t := ⟨_, rfl⟩
   have hR5 := HR2.out
   rw [Int.toNat_natCast, zA1 hjl, hK2, ht2] at hR5
   have HR5 := hid hR5
   clear HR2 hR5
   by_cases hz : E1 = 0
   . have hx0 := HZ1.out hz
     have HR6 := HR5.out
     rw [if_neg (fun c => c hz)] at HR6
     have HR7 := hid HR6
     subst hz
     have HAS := hid (HAS0.out j (fun h => by
       have e : prt part rs[k] = rs[k].w := by unfold prt; rw [if_pos h]
       rw [e] at hjl
       omega))
     have HCK1 := hid (fun av => HCK0.out j av)
     have HTA1 := hid (fun av (h : K2 = 0) => HTA0.out j hjl av hx0 (knk_ok HDS.out (ckc_ok (hK2.trans h)).2 (zFP kn (ckc_ok (hK2.trans h)).1)))
     rw [hK2] at HCK1
     rw [ht2] at HTA1
     have XR4 := hid (zAJ HX4.out.r)
     clear HR6 HR5 HAS0 HCK0 HTA0 HZ1 hK2 ht2 hx0
     go_wp2_with ((with_reducible refine gLq ?_); refine wpList_load_mid (by rfl) 55 _ (by rfl) rb 0 (by rfl) A _ XR4.out Tryd.underlying55 rfl ZA.out ?_)
     refine (HAS.out _ HX4.out.bx.bel).mono ?_
     rintro e w5 ⟨av, rfl, hrd5, hb5⟩
     obtain ⟨ap, an, ac, rfl⟩ := zAB hrd5
     have HRD5 := hid hrd5
     have HX5 := hid (HX4.out.next hb5)
     have HB35 := hid (zAA HB34.out hb5 HB34.out.size)
     have c0 : w5.cell? ⟨w.heap.size, 0, none⟩ = some (.slice tp tn tc) := HX5.out.bx.c 0 (by simp) 0
     have HCK := hid (HCK1.out _ hrd5)
     have HTA2 := hid (fun h => HTA1.out _ h hrd5)
     clear hrd5 hb5 XR4 HAS HCK1 HTA1
     go_wp2_with fail
     refine (HCK.out _ HX5.out.bx.bel).mono ?_
     rintro e w6 ⟨rfl, hb6⟩
     have HX6 := hid (HX5.out.next hb6)
     have HB36 := hid (zAA HB35.out hb6 HB35.out.size)
     clear hb6 c0 HCK
     by_cases hz2 : K2 = 0
     . have HRT : Hid (R = (t2, 0)) := by have h := HR7.out; rw [if_neg (fun c => c hz2)] at h; exact h.symm
       have hTA3 := HTA2.out hz2
       subst hz2
       obtain ⟨UL, hUL⟩ : ∃ UL : List Value, [.slice tp tn tc, .int .i64 xn, .int .i64 xt, .int .i64 xs, .int .i64 xe, .slice up un uc, .slice ap an ac, .slice kp kn2 kc] = UL := ⟨_, rfl⟩
       have hsv : (Value.agg #[.slice tp tn tc, .int .i64 xn, .int .i64 xt, .int .i64 xs, .int .i64 xe, .slice up un uc, .slice ap an ac, .slice kp kn2 kc]) = .agg UL.toArray := by rw [← hUL]
       rw [hsv] at hTA3
       have ZU : Hid ((Tryd.prog.info? 80).map (·.size) = some UL.length) := by show _ = _; rw [← hUL]; kernel_rfl
       have hUO : UL.all (·.oneCell') = true := by rw [← hUL]; rfl
       have HUO := hid hUO
       have HUZ : Hid (UL.length = 8) := by show _ = _; rw [← hUL]; rfl
       have HBD : Hid (∀ w, (Instr.build 80 #[(0, .slice tp tn tc), (1, .agg #[.int .i64 xn, .int .i64 xt, .int .i64 xs, .int .i64 xe, .slice up un uc]), (2, .slice ap an ac), (3, .slice kp kn2 kc)]).run Tryd.prog w = .ok (.agg UL.toArray) w) := fun w => by rw [← hsv]; exact bd_sn _ _ _ _ _ _ _ _ _ _ _ _ _ _ _ _ w
       have c0 : w6.cell? ⟨w.heap.size, 0, none⟩ = some (.slice tp tn tc) := HX6.out.bx.c 0 (by simp) 0
       have XX := hid (HX6.out.bx.r 1 (by simp))
       obtain ⟨g3, off3, e13, hrd3⟩ := HAT3.out (by omega)
       have HRD3 := hid hrd3
       subst e13
       have HTA3 := hid hTA3
       clear hUL hsv hUO hTA3 hrd3 HTA2 HR7
       go_wp2_with (first
        | ((with_reducible refine gLq ?_); refine wpList_load_mid (by rfl) 40 _ (by rfl) (w.heap.size + 1) 0 (by rfl) [.int .i64 xn, .int .i64 xt, .int .i64 xs, .int .i64 xe, .slice up un uc] _ XX.out Tryd.underlying40 rfl (by kernel_rfl) ?_)
        | ((with_reducible show wpList _ _ _ (Oper.mk _ (.build _ _) _ _ _ _ :: _) _ _); refine wp_bd (by rfl) 80 _ (by rfl) #[(0, .slice tp tn tc), (1, .agg #[.int .i64 xn, .int .i64 xt, .int .i64 xs, .int .i64 xe, .slice up un uc]), (2, .slice ap an ac), (3, .slice kp kn2 kc)] (by simp [Act.eval, Act.put]) _ HBD.out ?_)
        | ((with_reducible refine gSq ?_); refine zBA (by rfl) 80 _ _ (by rfl) w6.heap.size 0 zSN 80 (.agg UL.toArray) UL (by rfl) (by rfl) (by rfl) (heap_alloc_new _ _) (by have := HUZ.out; simp; omega) ZU.out HUO.out ?_; intro w7 hblk hfr; rw [zAY (by rw [HUZ.out]; rfl)] at hblk; have XU7 : Hid (w7.rangeAt w6.heap.size 0 UL) := zAJ hblk; have HB67 : Hid (Below w6.heap.size w6 w7) := zAH hfr; clear hblk hfr))
       have HX7 := hid (HX6.out.next HB67.out)
       obtain ⟨PA, r3, o3⟩ := HRD3.out w7 (zAA HB36.out HB67.out HB36.out.size) j hjl
       have hPz : PA.length = 18 := o3.1.symm
       have ZP : Hid ((Tryd.prog.info? 47).map (·.size) = some PA.length) := by show _ = _; rw [hPz]; kernel_rfl
       have XP7 := hid r3
       have HTA := hid (fun W (hW : Below w7.heap.size w7 W) => HTA3.out W (zAA HX7.out.bx.bel hW HX7.out.bx.bel.size) PA (o3.below hW))
       obtain ⟨sb, hsb⟩ : ∃ sb, w6.heap.size = sb := ⟨_, rfl⟩
       rw [hsb] at XU7 ⊢
       clear r3 o3 hPz HTA3 HRD3 c0 XX hsb
       go_wp2_with fail
       refine zBG (S := (fun w' => w'.rangeAt sb 0 UL ∧ w'.rangeAt g3 (off3 + j * 18) PA)) 8 #[false, false, false, false, false, false, false, false] rfl rfl (by kernel_rfl) (⟨zAP XU7.out (Below.drew (Below.refl _ _)), zAP XP7.out (Below.drew (Below.refl _ _))⟩) (fun hHeld => ?_)
       refine tkq (i := 1) (v := ?v1) rfl ?hy1 ?rest1; (case hy1 => intro w0 hSw; (try dsimp only at hSw); go_simp <;> (try (with_reducible rfl))); (try simp only [puts])
       refine tkq (i := 2) (v := ?v2) rfl ?hy2 ?rest2; (case hy2 => intro w0 hSw; (try dsimp only at hSw); go_simp <;> (try (with_reducible rfl))); (try simp only [puts])
       refine tkq (i := 3) (v := ?v3) rfl ?hy3 ?rest3; (case hy3 => intro w0 hSw; (try dsimp only at hSw); go_simp <;> (try (with_reducible rfl))); (try simp only [puts])
       refine tlq (i := 0) rfl (yieldsIf_load_mid (by rfl) 80 _ rfl sb (0) (by rfl) UL _ (fun _ h => h.1) Tryd.underlying80 rfl ZU.out) ?_
       (try simp only [puts])
       refine tlq (i := 4) rfl (yieldsIf_load_mid (by rfl) 47 _ rfl g3 (off3 + j * 18) (by rfl) PA _ (fun _ h => h.2) Tryd.underlying47 rfl ZP.out) ?_
       (try simp only [puts])
       refine wpAnyH_ready (rs := [5]) (by kernel_rfl) (by simp) ?_
       refine zAQ rfl (fun K hK => ?_) AllReadyH.nil
       refine zA2 18 zHR (by rfl) _ _ _ (by rfl) (.agg UL.toArray) (.agg PA.toArray) (by rfl) (by rfl) _ (HTA.out _ (Below.drew (Below.refl _ _))) ?_
       rintro e w8 ⟨rfl, hb8⟩
       refine ⟨_, rfl, ?_⟩
       have HB8 : Hid (Below w7.heap.size w7 w8) := zAA (Below.drew (Below.refl _ _)) hb8 (Nat.le_refl _)
       clear hb8
       refine hK.out _ _ (⟨zAP XU7.out HB8.out, zAP XP7.out HB8.out⟩) (fun hHeld => ?_)
       clear hK K
       (try simp only [puts])
       refine tkq (i := 6) (v := ?v4) rfl ?hy4 ?rest4; (case hy4 => intro w0 hSw; (try dsimp only at hSw); go_simp <;> (try (with_reducible rfl))); (try simp only [puts])
       refine tkq (i := 7) (v := ?v5) rfl ?hy5 ?rest5; (case hy5 => intro w0 hSw; (try dsimp only at hSw); go_simp <;> (try (with_reducible rfl))); (try simp only [puts])
       refine wpAnyH_done (by kernel_rfl) ?_ _
       go_wp2_with fail
       go_ret2
       exact ⟨by rw [HRT.out]; rfl, zAA HX7.out.bx.bel HB8.out HX7.out.bx.bel.size⟩
     . have HRT : Hid (R = (false, K2)) := by have h := HR7.out; rw [if_pos hz2] at h; exact h.symm
       have d9 : (K2 != 0) = true := by simpa using hz2
       go_wp2_with fail
       go_ret2
       exact ⟨by rw [HRT.out]; rfl, HX6.out.bx.bel⟩
   . have HRT : Hid (R = (false, E1)) := by have h := HR5.out; rw [if_pos hz] at h; exact h.symm
     have d9 : (E1 != 0) = true := by simpa using hz
     clear HR5
     go_wp2_with fail
     go_ret2
     exact ⟨by rw [HRT.out]; rfl, HX4.out.bx.bel⟩
 . have z0 : Hid (R = (false, 2)) := by have h := HRR.out; rw [if_pos hat] at h; exact h.symm
   by_cases h0 : at_ < 0
   . have d1 : decide (at_ < 0) = true := by simpa using h0
     go_wp2_with fail
     go_ret2
     exact ⟨by rw [z0.out]; rfl, HX3.out.bx.bel⟩
   . have d1 : decide (at_ < 0) = false := by simpa using h0
     have h1 : (np : Int) ≤ at_ := by omega
     have d2 : decide (at_ ≥ (np : Int)) = true := by simpa using h1
     go_wp2_with fail
     go_ret2
     exact ⟨by rw [z0.out]; rfl, HX3.out.bx.bel⟩
theorem zGL (ts : List Tp) (rs : List Rl) (hzz : ∀ r, r ∈ rs → Szr r) (tv rv : Value) (rule part at_ : Int) (x : Ev) (u : Value) (kn : List Ev) (kv : Value) (w : World) (hT : Rd w (.row 72 2 (ts.map encY)) tv) (hR : Rd w (.row 55 7 (rs.map encR)) rv) (htk : Tab w 0 kpl) (htr : Tab w 1 rll) (hu : Rd w (.row 29 3 (x.v.map encV)) u) (hK : Rd w (.row 40 5 (kn.map encX)) kv) : Calls Tryd.prog 9 #[.agg #[tv, rv], .int .i64 rule, .int .i64 part, .int .i64 at_, evV x u, kv] w fun e w' => e = .returned (.tuple #[.bool ((tkr ts rs rule part at_ x kn).1), .int .i64 ((tkr ts rs rule part at_ x kn).2)]) ∧ Below w.heap.size w w' := by
 by_cases hb : bok ts rs = 0
 . by_cases hr : 0 ≤ rule ∧ rule < (rs.length : Int)
   . obtain ⟨k, rfl⟩ : ∃ k : Nat, rule = (k : Int) := ⟨rule.toNat, by omega⟩
     exact zFQ ts rs hzz tv rv k part at_ x u kn kv w hT hR htk htr hu hK hb k (by omega) rfl _ rfl
   . have e : tkr ts rs rule part at_ x kn = (false, 2) := by unfold tkr; rw [if_neg (fun c => c hb), if_pos hr]
     rw [e]
     exact zHK ts rs hzz tv rv rule part at_ x u kn kv w hT hR htk htr hu hK hb hr
 . have e : tkr ts rs rule part at_ x kn = (false, bok ts rs) := by unfold tkr; rw [if_pos hb]
   rw [e]
   exact zH6 ts rs hzz tv rv rule part at_ x u kn kv w hT hR htk htr hu hK hb
end Go.Proofs.YtnlmknbhppdliaaDoor.Chk
