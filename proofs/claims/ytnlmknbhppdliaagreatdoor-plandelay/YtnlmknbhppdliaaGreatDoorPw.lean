/-
  What events of each type may be needed for: Offsets. Conditions of raw numbers, and their contraries, in plain words. Parts of books of raw numbers. Three rules, in plain words: one that never can be, one that waits without end; one that waits for a not; one that counts. Books of one rule, in memory.
-/
import Derived.Test.YtnlmknbhppdliaaGreatDoorPv
import Derived.Test.YtnlmknbhppdliaaGreatDoorPt
import Derived.Test.YtnlmknbhppdliaaGreatDoorRb
set_option maxHeartbeats 64000000
namespace Go.Proofs.YtnlmknbhppdliaaGreatDoor.Chk
open Go.ChangeShapes Go.WideShapes Go.ChangeAt Go.RowKit Go.Maps
open B8 (Mx OwnM New zA5)
set_option linter.unusedVariables false
set_option linter.unusedSimpArgs false
set_option maxRecDepth 20000
def rA (ts : List Tp) (x : Rl) (P : PlP) (z : Nat → Int) : Nat → Int := rM ts x.m P.z3 x.m.length (rW ts x.t P.z2 x.t.length (rW ts x.w P.z1 x.w.length z))
def ofz (ts : List Tp) : List Rl → (Nat → Int) → (Nat → Int) × Int
  | [], z => (z, 0)
  | x :: r, z => if (plO x).c ≠ 0 then (z, (plO x).c) else ofz ts r (rA ts x (plO x) z)
def ofR (ts : List Tp) (rs : List Rl) : (Nat → Int) × Int := if bok ts rs ≠ 0 then (fun _ => 0, bok ts rs) else ofz ts rs (fun _ => 0)
def OfV (w : World) (e : Ending) (n : Nat) (Z : (Nat → Int) × Int) : Prop :=
  (Z.2 ≠ 0 → e = .returned (.tuple #[.slice none 0 0, .int .i64 Z.2])) ∧ (Z.2 = 0 → ∃ g, e = .returned (.tuple #[.slice (some ⟨g, 0, none⟩) n n, .int .i64 0]) ∧ w.rowIs g 3 n (fun i => .int .i64 (Z.1 i)))
def PlVN (B : Nat) (w : World) (e : Ending) (P : PlP) : Prop := ∃ pa ca pb cb pc cc, e = .returned (.tuple #[.agg #[.int .i64 P.x, .slice pa P.n1 ca, .slice pb P.n2 cb, .slice pc P.n3 cc], .int .i64 P.c]) ∧ RwN B w (.slice pa P.n1 ca) P.n1 P.z1 ∧ RwN B w (.slice pb P.n2 cb) P.n2 P.z2 ∧ RwN B w (.slice pc P.n3 cc) P.n3 P.z3
theorem RwN.nil (B : Nat) (w : World) (z : Nat → Int) : RwN B w (.slice none 0 0) 0 z := ⟨RwI.nil w z, fun g off cap h => by cases h⟩
theorem plVN_E {B : Nat} {w : World} {c : Int} : PlVN B w (.returned (.tuple #[.agg #[.int .i64 0, .slice none 0 0, .slice none 0 0, .slice none 0 0], .int .i64 c])) (plE c) := ⟨none, 0, none, 0, none, 0, rfl, RwN.nil _ _ _, RwN.nil _ _ _, RwN.nil _ _ _⟩
theorem plVN_of {B : Nat} {w : World} {e : Ending} {x : Rl} (h : zHR B w e x.w x.t x.m x.k) : PlVN B w e (plO x) := by
 unfold zHR at h
 unfold plO
 cases h1 : rmx x.w x.w x.k with
 | none => simp only [h1] at h; rw [h]; exact plVN_E
 | some M =>
  simp only [h1] at h ⊢
  cases h2 : dly x.w.length (nmx x.w x.k x.t) x.t.length with
  | none => simp only [h2] at h; rw [h]; exact plVN_E
  | some d =>
   simp only [h2] at h ⊢
   obtain ⟨va, vb, vc, rfl, q1, q2, q3⟩ := h
   obtain ⟨pa, ca, rfl, _⟩ := q1.1.1
   obtain ⟨pb, cb, rfl, _⟩ := q2.1.1
   obtain ⟨pc, cc, rfl, _⟩ := q3.1.1
   exact ⟨_, _, _, _, _, _, rfl, q1, q2, q3⟩
theorem plO_ok {x : Rl} (h : (plO x).c = 0) : (plO x).n1 = x.w.length ∧ (plO x).n2 = x.t.length ∧ (plO x).n3 = x.m.length := by
 unfold plO at h ⊢
 cases h1 : rmx x.w x.w x.k with
 | none => simp only [h1] at h; exact absurd h (by decide)
 | some M =>
  simp only [h1] at h ⊢
  cases h2 : dly x.w.length (nmx x.w x.k x.t) x.t.length with
  | none => simp only [h2] at h; exact absurd h (by decide)
  | some d => simp [h2]
theorem tyq_of {ts : List Tp} {x : Rl} (h : rck ts x = 0) : (∀ p, p ∈ x.w → 0 ≤ tyq ts p.ty) ∧ (∀ p, p ∈ x.t → 0 ≤ tyq ts p.ty) ∧ (∀ m, m ∈ x.m → 0 ≤ tyq ts m.p.ty) := by
 refine ⟨fun p hp => ?_, fun p hp => ?_, fun m hm => ?_⟩
 . obtain ⟨k, hk, rfl⟩ := List.getElem_of_mem hp
   exact (zGK h (part := 0) (k := k) hk).1
 . obtain ⟨k, hk, rfl⟩ := List.getElem_of_mem hp
   exact (zGK h (part := 1) (k := k) hk).1
 . obtain ⟨k, hk, rfl⟩ := List.getElem_of_mem hm
   have hp : x.m.map Mn.p = prt 2 x := by unfold prt; rw [if_neg (by decide), if_neg (by decide), if_pos rfl]
   have h9 : ∀ (l : List Pt), l = prt 2 x → ∀ (j : Nat) (hj : j < l.length), 0 ≤ tyq ts l[j].ty := fun l hl j hj => by subst hl; exact (zGK h (part := 2) (k := j) hj).1
   have h8 := h9 _ hp k (by simpa using hk)
   simpa using h8
theorem wp_mkI {o : Oper} {ops : Array Oper} {rest : List Oper} {Q : Exit → Act → World → Prop} {a : Act} {w : World} (hgd : o.guard = none) (x : Operand) (ho : o.op = .makeSlice 67 x x) (n : Nat) (hn : n ≤ 1000) (hx : a.eval x = .int .i64 (n : Nat))
  (h : wpList Tryz.prog ops Q rest (a.put o.dst (.slice (some ⟨w.heap.size, 0, none⟩) n n)) (w.alloc (.cells (madeCells #[.int .i64 0] n) 3))) : wpList Tryz.prog ops Q (o :: rest) a w := by
 refine wpList_plain hgd fun K hK => ?_
 exact op_mk x ho n hn hx (hK _ _ h)
theorem zF7 (ts : List Tp) (rs : List Rl) (hzz : ∀ r, r ∈ rs → Szr r) (tv rv : Value) (w : World) (hT : Rd w (.row 59 2 (ts.map encY)) tv) (hR : Rd w (.row 56 7 (rs.map encR)) rv) (htk : Tab w 0 kpl) (htr : Tab w 1 rll) (ht : B8.Tab w) (hb : bok ts rs ≠ 0) : Calls Tryz.prog 14 #[.agg #[tv, rv]] w fun e w' => OfV w' e ts.length (fun _ => 0, bok ts rs) ∧ Below w.heap.size w w' := by
  obtain ⟨tp, tc, htv, _, _⟩ := zAK lenY hT
  obtain ⟨rp, rc, hrv, hmr, _⟩ := zAK lenR hR
  obtain ⟨E0, hE0⟩ : ∃ E, bok ts rs = E := ⟨_, rfl⟩
  obtain ⟨W0, hW0⟩ : ∃ W, w.alloc (.cells #[tv, rv] 28) = W := ⟨_, rfl⟩
  have hA0 : Below w.heap.size w W0 := by rw [← hW0]; exact (Below.refl _ _).alloc (Nat.le_refl _) _
  have hU0 : W0.heap[w.heap.size]? = some (.cells #[tv, rv] 28 (0, 0)) := by rw [← hW0]; exact heap_alloc_new _ _
  have HCH := hid (check_any ts rs hzz tv rv W0 (hT.later hA0) (hR.later hA0) (zAH htk hA0) (zAH htr hA0))
  have HA0 := hid hA0
  have HU0 := hid hU0
  rw [hE0] at HCH hb ⊢
  subst htv hrv
  obtain ⟨tn, htn⟩ : ∃ n, ts.length = n := ⟨_, rfl⟩
  obtain ⟨rn, hrn⟩ : ∃ n, rs.length = n := ⟨_, rfl⟩
  simp only [htn, hrn] at HCH HU0 hW0 ⊢
  have d9 : (E0 != 0) = true := by simpa using hb
  have d8 : (E0 == 0) = false := by simpa using hb
  clear hT hR hzz hE0 hmr htk htr ht hA0 hU0 htn hrn
  go_enter Tryz.func14, Tryz.ntmps14
  go_upto_region 1 with fail
  clear hW0
  have c0 : W0.cell? ⟨w.heap.size, 0, none⟩ = some (.slice tp tn tc) := by rw [zAB HU0.out]; rfl
  have c1 : W0.cell? ⟨w.heap.size, 1, none⟩ = some (.slice rp rn rc) := by rw [zAB HU0.out]; rfl
  go_wp2_with (go_at_call 15; refine HCH.out.mono ?_; rintro e w1 ⟨rfl, hb1⟩; have HB1 := hid (zAA HA0.out hb1 HA0.out.size); clear hb1 c0 c1)
  go_ret2
  exact ⟨⟨fun _ => rfl, fun h => absurd h hb⟩, HB1.out⟩
theorem zF6 (ts : List Tp) (rs : List Rl) (hzz : ∀ r, r ∈ rs → Szr r) (tv rv : Value) (w : World) (hT : Rd w (.row 59 2 (ts.map encY)) tv) (hR : Rd w (.row 56 7 (rs.map encR)) rv) (htk : Tab w 0 kpl) (htr : Tab w 1 rll) (ht : B8.Tab w) (hb : bok ts rs = 0) : Calls Tryz.prog 14 #[.agg #[tv, rv]] w fun e w' => OfV w' e ts.length (ofz ts rs (fun _ => 0)) ∧ Below w.heap.size w w' := by
 obtain ⟨Zf, hZf⟩ : ∃ z, ofz ts rs (fun _ => 0) = z := ⟨_, rfl⟩
 have HZF := hid hZf
 rw [hZf]
 clear hZf
 have hlen := zGB hb
 have hrck := zIG hb
 obtain ⟨tp, tc, htv, _, _⟩ := zAK lenY hT
 obtain ⟨rp, rc, hrv, hmr, hatr⟩ := zAK lenR hR
 obtain ⟨W0, hW0⟩ : ∃ W, w.alloc (.cells #[tv, rv] 28) = W := ⟨_, rfl⟩
 have hA0 : Below w.heap.size w W0 := by rw [← hW0]; exact (Below.refl _ _).alloc (Nat.le_refl _) _
 have hU0 : W0.heap[w.heap.size]? = some (.cells #[tv, rv] 28 (0, 0)) := by rw [← hW0]; exact heap_alloc_new _ _
 have HCH := hid (check_any ts rs hzz tv rv W0 (hT.later hA0) (hR.later hA0) (zAH htk hA0) (zAH htr hA0))
 rw [hb] at HCH
 have HPO := hid (fun (X : Rl) (hX : X ∈ rs) (rn rt : ByteArray) (a1 : Option Addr) (a2 a3 : Nat) (b1 : Option Addr) (b2 b3 : Nat) (d1 : Option Addr) (d2 d3 : Nat) (f1 : Option Addr) (f2 f3 : Nat) (g1 : Option Addr) (g2 g3 : Nat) (W : World) (hW : Below w.heap.size w W) (o1 : Rd W (.row 48 18 (X.w.map encP)) (.slice a1 a2 a3)) (o2 : Rd W (.row 48 18 (X.t.map encP)) (.slice b1 b2 b3)) (o3 : Rd W (.row 78 20 (X.m.map encM)) (.slice d1 d2 d3)) (o4 : Rd W (.row 66 3 (X.k.map encK)) (.slice f1 f2 f3)) =>
  (zC8 X.w X.t X.m X.k (zBX (hrck X hX)).w ((zBX (hrck X hX)).k _) (fun p _ => (zBX (hrck X hX)).k _) (zBX (hrck X hX)).m (zBX (hrck X hX)).sz.1 (zBX (hrck X hX)).sz.2.1 (zBX (hrck X hX)).sz.2.2.1 (zBX (hrck X hX)).sz.2.2.2.1 rn rt a1 a2 a3 b1 b2 b3 d1 d2 d3 f1 f2 f3 g1 g2 g3 W o1 o2 o3 o4 (ht.later hW)).mono fun e w' h => (show PlVN W.heap.size w' e (plO X) ∧ Below W.heap.size W w' from ⟨plVN_of h.1, h.2⟩))
 have HTQ := hid (fun (X : Rl) (hX : X ∈ rs) => tyq_of (hrck X hX))
 have HSZ := hid (fun (X : Rl) (hX : X ∈ rs) => (zBX (hrck X hX)).sz)
 have HTT := hid hT
 have HAT := hid hatr
 have HA0 := hid hA0
 subst htv hrv
 obtain ⟨tn, htn⟩ : ∃ n, ts.length = n := ⟨_, rfl⟩
 obtain ⟨rn, hrn⟩ : ∃ n, rs.length = n := ⟨_, rfl⟩
 have HTN := hid htn
 have HRN := hid hrn
 have htn6 : tn ≤ 6 := by omega
 have hrn5 : rn ≤ 5 := by omega
 have HU0 : Hid (W0.heap[w.heap.size]? = some (.cells #[.slice tp tn tc, .slice rp rn rc] 28 (0, 0))) := by rw [← htn, ← hrn]; exact hU0
 have HLN : Hid (tn ≤ 6 ∧ rn ≤ 5) := ⟨htn6, hrn5⟩
 simp only [htn, hrn] at HCH hW0 HTT ⊢
 clear hT hR hzz hmr hatr htk htr ht hA0 hU0 htn hrn hlen hrck hb htn6 hrn5
 go_enter Tryz.func14, Tryz.ntmps14
 go_upto_region 1 with fail
 clear hW0
 have c0 : W0.cell? ⟨w.heap.size, 0, none⟩ = some (.slice tp tn tc) := by rw [zAB HU0.out]; rfl
 have c1 : W0.cell? ⟨w.heap.size, 1, none⟩ = some (.slice rp rn rc) := by rw [zAB HU0.out]; rfl
 go_upto_region 4 with (go_at_call 15; refine HCH.out.mono ?_; rintro e w1 ⟨rfl, hb1⟩; have HB1 := hid (zAA HA0.out hb1 HA0.out.size); have HU1 := hid ((hb1.block _ (zAE HU0.out)).trans HU0.out); clear hb1 c0 c1)
 have c0 : w1.cell? ⟨w.heap.size, 0, none⟩ = some (.slice tp tn tc) := by rw [zAB HU1.out]; rfl
 have hmk : Below w1.heap.size w1 (w1.alloc (.cells (madeCells #[.int .i64 0] tn) 3)) := (Below.refl _ _).alloc (Nat.le_refl _) _
 have HMK := hid hmk
 have HRM : Hid ((w1.alloc (.cells (madeCells #[.int .i64 0] tn) 3)).rowIs w1.heap.size 3 tn (fun _ => .int .i64 0)) := World.rowIs_made w1 (.int .i64 0) tn 3
 obtain ⟨w2, hw2⟩ : ∃ W, w1.alloc (.cells (madeCells #[.int .i64 0] tn) 3) = W := ⟨_, rfl⟩
 rw [hw2] at HRM HMK
 have HS2 : Hid (w2.heap.size = w1.heap.size + 1) := by show _ = _; rw [← hw2]; simp
 clear hmk
 go_upto_region 5 with (first
  | ((with_reducible show wpList _ _ _ (Oper.mk _ (.makeSlice _ _ _) _ _ _ _ :: _) _ _); refine wp_mkI (by rfl) _ rfl tn (by have := HLN.out; omega) (by rfl) ?_; rw [hw2])
  | ((with_reducible show wpList _ _ _ (Oper.mk _ (.store 67 _ _) _ _ _ _ :: _) _ _); refine wp_sq 67 w2.heap.size 0 [.slice none 0 0] 67 (.slice (some ⟨w1.heap.size, 0, none⟩) tn tn) [.slice (some ⟨w1.heap.size, 0, none⟩) tn tn] (heap_alloc_new _ _) ?_; intro w4 hq1 hq2; have HO4 : Hid (w4.heap[w2.heap.size]? = some (.cells #[.slice (some ⟨w1.heap.size, 0, none⟩) tn tn] 67 (0, 0))) := hq1; have HB24 : Hid (Below w2.heap.size w2 w4) := zA4 ((Below.refl _ _).alloc (Nat.le_refl _) (.cells #[.slice none 0 0] 67)) hq2 (Nat.le_refl _); clear hq1 hq2))
 obtain ⟨g, hg⟩ : ∃ x, w1.heap.size = x := ⟨_, rfl⟩
 obtain ⟨bO, hbO⟩ : ∃ x, w2.heap.size = x := ⟨_, rfl⟩
 have HR4 := hid (zAJ HRM.out HB24.out)
 have HB14 : Hid (Below w1.heap.size w1 w4) := zAA HMK.out HB24.out HMK.out.size
 have HB04 := hid (zAA HB1.out HB14.out HB1.out.size)
 have HU4 := hid ((HB14.out.block _ (zAE HU1.out)).trans HU1.out)
 have HGG : Hid (w.heap.size ≤ g ∧ g < w4.heap.size ∧ w.heap.size < g) := by have h1 := HB1.out.size; have h2 := HB24.out.size; have h3 := HS2.out; have h4 := zAE HU1.out; show _ ∧ _ ∧ _; omega
 rw [hg] at HR4 HO4 ⊢
 rw [hbO] at HO4 ⊢
 clear hw2 hg hbO HRM HMK HS2 HB24 HB14 HB1 HU1 c0 HCH HA0 HU0
 have c1 : w4.cell? ⟨w.heap.size, 1, none⟩ = some (.slice rp rn rc) := by rw [zAB HU4.out]; rfl
 go_wp2_with fail
 clear c1
 have hbBg := zEQ HR4.out HU4.out (by decide)
 have hbOg := zEQ HR4.out HO4.out (by decide)
 have HNE := hid (And.intro hbBg hbOg)
 clear hbBg hbOg
 go_loopg [24] (rn + 1) (fun gg io wr => ∃ (k : Nat) (z : Nat → Int), k ≤ rn ∧ gg = rn + 1 - k ∧ io = .int .i64 (k : Nat) ∧ wr.rowIs g 3 tn (fun i => .int .i64 (z i)) ∧ Fr (fun i => i = g) w4 wr ∧ ofz ts (rs.drop k) z = Zf)
 case atStart => exact ⟨0, fun _ => 0, by omega, by omega, rfl, HR4.out, Fr.refl _ _, HZF.out⟩
 case round =>
  obtain ⟨k, z, hk, rfl, rfl, hr, hf, hz⟩ := hrel
  have HRr := hid hr
  have HFr := hid hf
  have HBr : Hid (Below w.heap.size w wr) := zAU HB04.out hf HGG.out.1 (Nat.le_refl _)
  clear hr hf HR4 HZF
  by_cases hkn : k < rn
  . have hkc : k < rs.length := by rw [HRN.out]; exact hkn
    rw [List.drop_eq_getElem_cons hkc, ofz] at hz
    have hmem : rs[k] ∈ rs := List.getElem_mem hkc
    obtain ⟨X, hX⟩ : ∃ X, rs[k] = X := ⟨_, rfl⟩
    obtain ⟨gr, off, rfl, hrd⟩ := HAT.out (by omega)
    obtain ⟨A, r1, oo⟩ := hrd w (Below.refl _ _) k hkc
    rw [hX] at hz hmem oo
    have hpo := HPO.out X hmem
    obtain ⟨hq1, hq2, hq3⟩ := HTQ.out X hmem
    have hsz := HSZ.out X hmem
    obtain ⟨v1, v2, v3, v4, v5, z1, o1, o2, o3, o4, o5⟩ := rdR oo
    obtain ⟨a1, a2, a3, rfl⟩ := zAC o1
    obtain ⟨b1, b2, b3, rfl⟩ := zAC o2
    obtain ⟨d1, d2, d3, rfl⟩ := zAC o3
    obtain ⟨f1, f2, f3, rfl⟩ := zAC o4
    obtain ⟨g1, g2, g3, rfl⟩ := zAC o5
    obtain ⟨P, hP⟩ : ∃ P, plO X = P := ⟨_, rfl⟩
    have hok := plO_ok (x := X)
    rw [hP] at hok hz hpo
    obtain ⟨qn, hqn⟩ : ∃ z, X.n = z := ⟨_, rfl⟩
    obtain ⟨qt, hqt⟩ : ∃ z, X.e.ty = z := ⟨_, rfl⟩
    rw [hqn, hqt] at z1
    subst z1
    obtain ⟨l1, c1_, m1, n1_, p1_⟩ := zAK lenP o1
    obtain ⟨l2, c2_, m2, n2_, p2_⟩ := zAK lenP o2
    obtain ⟨l3, c3_, m3, n3_, p3_⟩ := zAK lenM o3
    simp only [Value.slice.injEq] at m1 m2 m3
    have HLS : Hid (a2 = X.w.length ∧ b2 = X.t.length ∧ d2 = X.m.length) := ⟨m1.2.1, m2.2.1, m3.2.1⟩
    have HXA := hid (zAY r1 HBr.out)
    have HO1 := hid o1
    have HO2 := hid o2
    have HO3 := hid o3
    have HO4' := hid o4
    have HPK := hid hpo
    have HQQ := hid (And.intro hq1 (And.intro hq2 hq3))
    have HSX := hid hsz
    have HOK := hid hok
    have HZ := hid hz
    have HDR : Hid (∀ (zz : Nat → Int), zz = zz) := fun _ => rfl
    have HKN := hid hkn
    have k1 : (0 : Int) ≤ (k : Int) := by omega
    have k2 : (k : Int) < (rn : Int) := by omega
    clear n1_ p1_ n2_ p2_ n3_ p3_ m1 m2 m3 oo hrd r1 o1 o2 o3 o4 o5 hpo hq1 hq2 hq3 hsz hok hz hkn hk hkc hmem hX hP hqn hqt HDR
    go_upto_region 9 with (first
      | ((with_reducible show wpList _ _ _ (Oper.mk _ (.load 56 _) _ _ _ _ :: _) _ _); refine wpList_load_mid (by rfl) 56 _ (by rfl) gr (off + k * 7) (by rfl) [.string qn, .slice a1 a2 a3, .slice b1 b2 b3, .slice d1 d2 d3, .slice f1 f2 f3, .string qt, .slice g1 g2 g3] _ HXA.out Tryz.underlying56 rfl (by kernel_rfl) ?_)
      | ((with_reducible show wpList _ _ _ (Oper.mk _ (.store 56 _ _) _ _ _ _ :: _) _ _); refine zBL 56 wr.heap.size 0 [.string ⟨#[]⟩, .slice none 0 0, .slice none 0 0, .slice none 0 0, .slice none 0 0, .string ⟨#[]⟩, .slice none 0 0] 56 [.string qn, .slice a1 a2 a3, .slice b1 b2 b3, .slice d1 d2 d3, .slice f1 f2 f3, .string qt, .slice g1 g2 g3] (heap_alloc_new _ _) ?_; intro w6 hq1 hq2; have HX6 : Hid (w6.heap[wr.heap.size]? = some (.cells #[.string qn, .slice a1 a2 a3, .slice b1 b2 b3, .slice d1 d2 d3, .slice f1 f2 f3, .string qt, .slice g1 g2 g3] 56 (0, 0))) := hq1; have HB6 : Hid (Below wr.heap.size wr w6) := zA4 ((Below.refl _ _).alloc (Nat.le_refl _) (.cells #[.string ⟨#[]⟩, .slice none 0 0, .slice none 0 0, .slice none 0 0, .slice none 0 0, .string ⟨#[]⟩, .slice none 0 0] 56)) hq2 (Nat.le_refl _); clear hq1 hq2))
    obtain ⟨bx, hbx⟩ : ∃ x, wr.heap.size = x := ⟨_, rfl⟩
    have HBw6 := hid (zAA HBr.out HB6.out HBr.out.size)
    have HG6 : Hid (g < w6.heap.size) := by have h1 := HGG.out.2.1; have h2 := HFr.out.size; have h3 := HB6.out.size; show _ < _; omega
    rw [hbx] at HX6 ⊢
    clear hbx HXA
    go_upto_region 10 with (first
      | ((with_reducible show wpList _ _ _ (Oper.mk _ (.load 56 _) _ _ _ _ :: _) _ _); refine wpList_load_mid (by rfl) 56 _ (by rfl) bx 0 (by rfl) [.string qn, .slice a1 a2 a3, .slice b1 b2 b3, .slice d1 d2 d3, .slice f1 f2 f3, .string qt, .slice g1 g2 g3] _ (zAL HX6.out) Tryz.underlying56 rfl (by kernel_rfl) ?_)
      | (go_at_call 28; refine (HPK.out _ _ _ _ _ _ _ _ _ _ _ _ _ _ _ _ _ _ HBw6.out (HO1.out.later HBw6.out) (HO2.out.later HBw6.out) (HO3.out.later HBw6.out) (HO4'.out.later HBw6.out)).mono ?_; rintro e w7 ⟨⟨pa, ca, pb, cb, pc, cc, rfl, q1, q2, q3⟩, hb7⟩; have HQ7 := hid (And.intro q1 (And.intro q2 q3)); have HB7 := hid hb7; clear q1 q2 q3 hb7)
      | ((with_reducible show wpList _ _ _ (Oper.mk _ (.store 69 _ _) _ _ _ _ :: _) _ _); refine zBL 69 w7.heap.size 0 [.int .i64 0, .slice none 0 0, .slice none 0 0, .slice none 0 0] 69 [.int .i64 P.x, .slice pa P.n1 ca, .slice pb P.n2 cb, .slice pc P.n3 cc] (heap_alloc_new _ _) ?_; intro w8 hq1 hq2; have HP8 : Hid (w8.heap[w7.heap.size]? = some (.cells #[.int .i64 P.x, .slice pa P.n1 ca, .slice pb P.n2 cb, .slice pc P.n3 cc] 69 (0, 0))) := hq1; have HB8 : Hid (Below w7.heap.size w7 w8) := zA4 ((Below.refl _ _).alloc (Nat.le_refl _) (.cells #[.int .i64 0, .slice none 0 0, .slice none 0 0, .slice none 0 0] 69)) hq2 (Nat.le_refl _); clear hq1 hq2))
    obtain ⟨bp, hbp⟩ : ∃ x, w7.heap.size = x := ⟨_, rfl⟩
    have HB68 := hid (zAA HB7.out HB8.out HB7.out.size)
    have HBr8 := hid (zAA HB6.out HB68.out HB6.out.size)
    have HBw8 := hid (zAA HBw6.out HB68.out HBw6.out.size)
    have HF8 := hid (HFr.out.trans (Fr.of_below (X := fun i => i = g) HBr8.out))
    have HU8 := hid ((HF8.out.block _ (zAE HU4.out) HNE.out.1).trans HU4.out)
    have HO8 := hid ((HF8.out.block _ (zAE HO4.out) HNE.out.2).trans HO4.out)
    have HX8 := hid ((HB68.out.block _ (zAE HX6.out)).trans HX6.out)
    rw [hbp] at HP8 ⊢
    clear hbp
    by_cases hc : P.c = 0
    . obtain ⟨hn1, hn2, hn3⟩ := HOK.out hc
      have HPN : Hid (P.n1 = a2 ∧ P.n2 = b2 ∧ P.n3 = d2) := by have h9 := HLS.out; show _ ∧ _ ∧ _; omega
      have hz9 : ofz ts (rs.drop (k + 1)) (rA ts X P z) = Zf := by have h9 := HZ.out; rw [if_neg (fun c => c hc)] at h9; exact h9
      have HZ9 := hid hz9
      have HP8' : Hid (w8.heap[bp]? = some (.cells #[.int .i64 P.x, .slice pa a2 ca, .slice pb b2 cb, .slice pc d2 cc] 69 (0, 0))) := by have h9 := HP8.out; rw [HPN.out.1, HPN.out.2.1, HPN.out.2.2] at h9; exact h9
      have d9 : (P.c != 0) = false := by simpa using hc
      have d8 : (P.c == 0) = true := by simpa using hc
      have HRA := hid (zFS ts X.w X.t X.m P.z1 P.z2 P.z3 P.x (.slice tp tn tc) (.slice (some ⟨gr, off, none⟩) rn rc) w.heap.size bO g tn w6.heap.size z qn qt a1 a2 a3 b1 b2 b3 d1 d2 d3 f1 f2 f3 g1 g2 g3 pa pb pc ca cb cc w w8 HBw8.out HGG.out.1 HG6.out HB68.out.size HO1.out HO2.out HO3.out HTT.out (by have h9 := HSX.out.2.1; have h8 := HLS.out.1; omega) (by have h9 := HSX.out.2.2.1; have h8 := HLS.out.2.1; omega) (by have h9 := HSX.out.2.2.2.1; have h8 := HLS.out.2.2; omega) HQQ.out.1 HQQ.out.2.1 HQQ.out.2.2 HTN.out (by have := HLN.out; omega) (by have h9 := HQ7.out.1.later HB8.out; rw [HPN.out.1] at h9; exact h9) (by have h9 := HQ7.out.2.1.later HB8.out; rw [HPN.out.2.1] at h9; exact h9) (by have h9 := HQ7.out.2.2.later HB8.out; rw [HPN.out.2.2] at h9; exact h9) HU8.out HO8.out (zAJ HRr.out HBr8.out))
      clear HOK hn1 hn2 hn3 hz9 HZ HPK HO1 HO2 HO3 HO4' HQ7
      go_upto_region 13 with (first
       | ((with_reducible show wpList _ _ _ (Oper.mk _ (.load 56 _) _ _ _ _ :: _) _ _); refine wpList_load_mid (by rfl) 56 _ (by rfl) bx 0 (by rfl) [.string qn, .slice a1 a2 a3, .slice b1 b2 b3, .slice d1 d2 d3, .slice f1 f2 f3, .string qt, .slice g1 g2 g3] _ (zAL HX8.out) Tryz.underlying56 rfl (by kernel_rfl) ?_)
       | ((with_reducible show wpList _ _ _ (Oper.mk _ (.load 69 _) _ _ _ _ :: _) _ _); refine wpList_load_mid (by rfl) 69 _ (by rfl) bp 0 (by rfl) [.int .i64 P.x, .slice pa a2 ca, .slice pb b2 cb, .slice pc d2 cc] _ (zAL HP8'.out) Tryz.underlying69 rfl (by kernel_rfl) ?_)
       | (go_at_call 32; refine HRA.out.mono ?_; rintro e w9 ⟨rfl, hr9, hf9⟩; have HR9 := hid hr9; have HF9 := hid (HF8.out.trans hf9); clear hr9 hf9))
      go_wp2_with fail
      go_roundg (rn + 1 - (k + 1))
      case rel =>
       refine ⟨k + 1, rA ts X P z, HKN.out, rfl, ?_, ?_, HF9.out, HZ9.out⟩
       . have h8 := HKN.out
         have h7 := HLN.out
         have h9 : RowKit.wrap64 ((k : Int) + 1) = ((k + 1 : Nat) : Int) := by unfold RowKit.wrap64; omega
         first | rw [h9] | (show Value.int _ _ = _; rw [h9]) | go_num
       . have h9 := HR9.out
         unfold rA
         rw [← HLS.out.1, ← HLS.out.2.1, ← HLS.out.2.2]
         exact h9
      case measure => have := HKN.out; omega
    . have hzc : (z, P.c) = Zf := by have h9 := HZ.out; rw [if_pos hc] at h9; exact h9
      have d9 : (P.c != 0) = true := by simpa using hc
      have d8 : (P.c == 0) = false := by simpa using hc
      have HZC := hid hzc
      have HCC := hid hc
      clear hzc hc HOK HZ HPK
      go_wp2_with fail
      go_ret2
      have hz2 := HZC.out
      subst hz2
      exact ⟨⟨fun _ => rfl, fun h => absurd h HCC.out⟩, HBw8.out⟩
  . obtain rfl : k = rn := by omega
    have hd : rs.drop k = [] := List.drop_eq_nil_of_le (by rw [HRN.out]; exact Nat.le_refl _)
    rw [hd, ofz] at hz
    have HZ := hid hz
    have c2 : wr.cell? ⟨bO, 0, none⟩ = some (.slice (some ⟨g, 0, none⟩) tn tn) := by rw [zAB ((HFr.out.block _ (zAE HO4.out) HNE.out.2).trans HO4.out)]; rfl
    clear hd hz hkn hk
    go_wp2_with fail
    go_ret2
    have hz2 := HZ.out
    subst hz2
    exact ⟨⟨fun h => absurd rfl h, fun _ => ⟨g, rfl, HRr.out⟩⟩, HBr.out⟩
theorem zGQ (ts : List Tp) (rs : List Rl) (hzz : ∀ r, r ∈ rs → Szr r) (tv rv : Value) (w : World) (hT : Rd w (.row 59 2 (ts.map encY)) tv) (hR : Rd w (.row 56 7 (rs.map encR)) rv) (htk : Tab w 0 kpl) (htr : Tab w 1 rll) (ht : B8.Tab w) : Calls Tryz.prog 14 #[.agg #[tv, rv]] w fun e w' => OfV w' e ts.length (ofR ts rs) ∧ Below w.heap.size w w' := by
 unfold ofR
 by_cases hb : bok ts rs = 0
 . rw [if_neg (fun c => c hb)]
   exact zF6 ts rs hzz tv rv w hT hR htk htr ht hb
 . rw [if_pos hb]
   exact zF7 ts rs hzz tv rv w hT hR htk htr ht hb
end Go.Proofs.YtnlmknbhppdliaaGreatDoor.Chk
namespace Go.Proofs.YtnlmknbhppdliaaGreatDoor.Chk
open Go.ChangeShapes Go.WideShapes Go.ChangeAt Go.RowKit Go.Maps
set_option linter.unusedVariables false
set_option linter.unusedSimpArgs false
set_option maxRecDepth 20000
def kts : List Tp := [⟨txt [97], [⟨txt [110], 1⟩]⟩, ⟨txt [98], [⟨txt [110], 1⟩, ⟨txt [115], 2⟩]⟩, ⟨txt [99], []⟩, ⟨txt [100], [⟨txt [110], 1⟩]⟩, ⟨txt [101], [⟨txt [110], 1⟩]⟩]
theorem tm_bd (n m : Int) (hn : n < 0) (hm : 0 < m) : 0 ≤ -((n + 1).tmod m) ∧ -((n + 1).tmod m) < m := by
  have e : -((n + 1).tmod m) = (-(n + 1)).tmod m := (Int.neg_tmod _ _).symm
  rw [e]
  exact ⟨Int.tmod_nonneg _ (by omega), Int.tmod_lt_of_pos _ hm⟩
def pkd (n m : Int) : Int := if 0 ≤ n then n % m else -((n + 1).tmod m)
theorem zIU (n : Int) {m : Int} (hm : 0 < m) : 0 ≤ pkd n m ∧ pkd n m < m := by
 unfold pkd
 split
 . exact ⟨Int.emod_nonneg n (by omega), Int.emod_lt_of_pos n hm⟩
 . rename_i h
   exact tm_bd n m (by omega) hm
theorem zCH (n m : Int) (w : World) (hn1 : -9223372036854775808 ≤ n) (hn2 : n ≤ 9223372036854775807) (hm : 0 < m) (hm2 : m ≤ 1099511627776) :
   Calls Tryz.prog 9 #[.int .i64 n, .int .i64 m] w fun e w' => e = .returned (.int .i64 (pkd n m)) ∧ w' = w := by
 have hm0 : ¬ m = 0 := by omega
 by_cases h : 0 ≤ n
 . have HP := hid (show pkd n m = n % m by unfold pkd; rw [if_pos h])
   go_enter Tryz.func9, Tryz.ntmps9
   go_wp2
   go_ret
   rw [HP.out]
   exact ⟨rfl, rfl⟩
 . have h' : n < 0 := by omega
   have HP := hid (show pkd n m = -((n + 1).tmod m) by unfold pkd; rw [if_neg h])
   go_enter Tryz.func9, Tryz.ntmps9
   go_wp2
   go_ret
   rw [HP.out]
   exact ⟨rfl, rfl⟩
theorem zCD {W : World} {b : Nat} {cs : List Value} {U e : TypeId} {z : Nat} {l : List (List Dat)} (hb : W.heap[b]? = some (.cells cs.toArray U (0, 0))) (hl : 0 < l.length) (hm : l.length ≤ maxLen) (h : RdL W l.flatten cs) : Rd W (.row e z l) (.slice (some ⟨b, 0, none⟩) l.length l.length) :=
  Rd.row (w := W) e z l b 0 l.length cs hl (Nat.le_refl _) hm (fun j u hu => by rw [Nat.zero_add, zAB hb]; simpa using hu) h.1 h.2
def Tys (W : World) (b : Nat) : Prop := W.heap[b]? = some (.cells #[.string ⟨#[110]⟩, .int .i64 1] 103 (0, 0)) ∧ W.heap[b + 1]? = some (.cells #[.string ⟨#[110]⟩, .int .i64 1, .string ⟨#[115]⟩, .int .i64 2] 103 (0, 0)) ∧ W.heap[b + 2]? = some (.cells #[.string ⟨#[110]⟩, .int .i64 1] 103 (0, 0)) ∧ W.heap[b + 3]? = some (.cells #[.string ⟨#[110]⟩, .int .i64 1] 103 (0, 0)) ∧ W.heap[b + 4]? = some (.cells #[.string ⟨#[97]⟩, .slice (some ⟨b, 0, none⟩) 1 1, .string ⟨#[98]⟩, .slice (some ⟨b + 1, 0, none⟩) 2 2, .string ⟨#[99]⟩, .slice none 0 0, .string ⟨#[100]⟩, .slice (some ⟨b + 2, 0, none⟩) 1 1, .string ⟨#[101]⟩, .slice (some ⟨b + 3, 0, none⟩) 1 1] 59 (0, 0))
theorem Tys.later {W W' : World} {b : Nat} (h : Tys W b) (hb : ∀ i o, W.heap[i]? = some o → b ≤ i → i < b + 5 → W'.heap[i]? = some o) : Tys W' b := ⟨hb _ _ h.1 (by omega) (by omega), hb _ _ h.2.1 (by omega) (by omega), hb _ _ h.2.2.1 (by omega) (by omega), hb _ _ h.2.2.2.1 (by omega) (by omega), hb _ _ h.2.2.2.2 (by omega) (by omega)⟩
theorem Tys.rd {W : World} {b : Nat} (h : Tys W b) : Rd W (.row 59 2 (kts.map encY)) (.slice (some ⟨b + 4, 0, none⟩) 5 5) := by
  obtain ⟨h0, h1, h2, h3, h4⟩ := h
  have r0 : Rd W (.row 103 2 (([⟨txt [110], 1⟩] : List Fd).map encF)) (.slice (some ⟨b, 0, none⟩) 1 1) := zCD (l := ([⟨txt [110], 1⟩] : List Fd).map encF) h0 (by decide) (by decide) (zBR [.string (txt [110]), .int .i64 1])
  have r1 : Rd W (.row 103 2 (([⟨txt [110], 1⟩, ⟨txt [115], 2⟩] : List Fd).map encF)) (.slice (some ⟨b + 1, 0, none⟩) 2 2) := zCD (l := ([⟨txt [110], 1⟩, ⟨txt [115], 2⟩] : List Fd).map encF) h1 (by decide) (by decide) (zBR [.string (txt [110]), .int .i64 1, .string (txt [115]), .int .i64 2])
  have r2 : Rd W (.row 103 2 (([⟨txt [110], 1⟩] : List Fd).map encF)) (.slice (some ⟨b + 2, 0, none⟩) 1 1) := zCD (l := ([⟨txt [110], 1⟩] : List Fd).map encF) h2 (by decide) (by decide) (zBR [.string (txt [110]), .int .i64 1])
  have r3 : Rd W (.row 103 2 (([⟨txt [110], 1⟩] : List Fd).map encF)) (.slice (some ⟨b + 3, 0, none⟩) 1 1) := zCD (l := ([⟨txt [110], 1⟩] : List Fd).map encF) h3 (by decide) (by decide) (zBR [.string (txt [110]), .int .i64 1])
  have rc : Rd W (.row 103 2 (([] : List Fd).map encF)) (.slice none 0 0) := .nil _ _ none 0 (Nat.zero_le _)
  exact zCD (l := kts.map encY) h4 (by decide) (by decide) (.cons (.lit _) (.cons r0 (.cons (.lit _) (.cons r1 (.cons (.lit _) (.cons rc (.cons (.lit _) (.cons r2 (.cons (.lit _) (.cons r3 (RdL.nil _)))))))))))
theorem zH6 (w : World) : Calls Tryz.prog 12 #[] w fun e w' => ∃ b, e = .returned (.slice (some ⟨b + 4, 0, none⟩) 5 5) ∧ w.heap.size ≤ b ∧ Tys w' b ∧ Below w.heap.size w w' := by
  have hB := (bxs4 w [.string ⟨#[110]⟩, .int .i64 1] [.string ⟨#[110]⟩, .int .i64 1, .string ⟨#[115]⟩, .int .i64 2] [.string ⟨#[110]⟩, .int .i64 1] [.string ⟨#[110]⟩, .int .i64 1] 103 103 103 103).snoc (by simp) [.string ⟨#[97]⟩, .slice (some ⟨w.heap.size, 0, none⟩) 1 1, .string ⟨#[98]⟩, .slice (some ⟨w.heap.size + 1, 0, none⟩) 2 2, .string ⟨#[99]⟩, .slice none 0 0, .string ⟨#[100]⟩, .slice (some ⟨w.heap.size + 1 + 1, 0, none⟩) 1 1, .string ⟨#[101]⟩, .slice (some ⟨w.heap.size + 1 + 1 + 1, 0, none⟩) 1 1] 59
  have HT := hid (show Tys _ w.heap.size from ⟨hB.b 0 (by simp), hB.b 1 (by simp), hB.b 2 (by simp), hB.b 3 (by simp), hB.b 4 (by simp)⟩)
  have HB := hid hB.bel
  clear hB
  go_enter Tryz.func12, Tryz.ntmps12
  go_wp2_with fail
  go_ret
  exact ⟨w.heap.size, rfl, Nat.le_refl _, HT.out, HB.out⟩
end Go.Proofs.YtnlmknbhppdliaaGreatDoor.Chk
namespace Go.Proofs.YtnlmknbhppdliaaGreatDoor.Chk
open B8 (Mx OwnM New zA5 lowZ leaZ greZ neeZ Bnd Gd fw Cls)
set_option linter.unusedVariables false
set_option linter.unusedSimpArgs false
set_option maxRecDepth 20000
def ptQ (v t : List UInt8) (w n : Int) : Pt := ⟨txt v, txt t, cn0, w, n⟩
def lkQ (l : List UInt8) (r lo hi : Int) (k : List UInt8) : Lk := ⟨txt l, [⟨r, lo, hi⟩], txt k⟩
def rlQ (w t : List Pt) (m : List Mn) (k : List Lk) : Rl := ⟨txt [114], w, t, m, k, ⟨txt [], []⟩⟩
def dlR (g h w : Int) : Rl := rlQ [ptQ [120] [97] 1 w] [ptQ [117] [98] 0 0] [] [lkQ [120] 7 g h [117]]
theorem ock_0 {r lo hi : Int} (h1 : 1 ≤ r) (h2 : r ≤ 13) (h3 : 0 ≤ lo) (h4 : lo ≤ 1073741824) (h5 : hi = -1 ∨ (lo ≤ hi ∧ hi ≤ 1073741824)) : ock r lo hi = 0 := by
  unfold ock
  rw [if_neg (fun c => c ⟨h1, h2⟩), if_neg (by omega), if_neg (by omega)]
theorem pck_q {kn : List Pt} {ah : List ByteArray} {v t : List UInt8} {w n part : Int} (h1 : frn (txt v) = 0) (h2 : ah.any (fun a => seq a (txt v)) = false) (h3 : 0 ≤ tyq kts (txt t)) (h4 : ¬ wbad part w n) (h5 : ¬ rbad w n) : pck kts kn ah (ptQ v t w n) part = 0 := by
  unfold pck ptQ
  simp only
  rw [if_neg (fun c => c h1), if_neg (by rw [h2]; decide), if_neg (by omega), if_neg h4, if_neg h5, if_pos (show noc cn0 = true by kernel_rfl)]
theorem lck_q {ws ns : List Pt} {l k : List UInt8} {r lo hi : Int} (h1 : ¬ ((ptq ws (txt l) < 0 ∧ ptq ns (txt l) < 0) ∨ (ptq ws (txt k) < 0 ∧ ptq ns (txt k) < 0))) (h2 : ¬ (seq (txt l) (txt k) = true ∨ (ptq ws (txt l) < 0 ∧ ptq ws (txt k) < 0))) (h3 : ock r lo hi = 0) : lck ws ns (lkQ l r lo hi k).l (lkQ l r lo hi k).r (lkQ l r lo hi k).o = 0 := by
  unfold lck lkQ
  simp only
  rw [if_neg h1, if_neg h2, if_neg (by simp), ofs, if_neg (fun c => c h3), ofs]
theorem zHY {x : Rl} (h : rck kts x = 0) (he : x.e.ty = txt []) : bok kts [x] = 0 := by
  unfold bok bkf
  rw [if_neg (by rw [show kts.length = 5 from rfl]; simp), show tks [] kts = 0 from by kernel_rfl, if_neg (by decide)]
  have e : rks (rck kts) [] [x] = 0 := by rw [rks, if_neg (fun c => c h), if_neg (by simp), rks]
  rw [e, if_neg (by decide), if_neg]
  rw [Bool.not_eq_true, List.any_eq_false]
  intro t _
  rw [show [x].length = 0 + 1 from rfl, cmo]
  simp [he, show emp (txt []) = true from by kernel_rfl]
theorem rck_q {w t : List Pt} {m : List Mn} {k : List Lk} (hs : szs (rlQ w t m k)) (e1 : wfs 0 kts [] w = 0) (e2 : nfs 0 kts w (w.map Pt.va) t = 0) (e3 : mfs 0 kts w (w.map Pt.va ++ t.map Pt.va) m = 0) (e4 : lfs 0 w t k = 0) : rck kts (rlQ w t m k) = 0 := by
  rw [zBV kts _ (show frn (txt [114]) = 0 by kernel_rfl) hs]
  show (if wfs 0 kts [] w ≠ 0 then _ else if nfs 0 kts w (w.map Pt.va) t ≠ 0 then _ else if mfs 0 kts w (w.map Pt.va ++ t.map Pt.va) m ≠ 0 then _ else if lfs 0 w t k ≠ 0 then _ else eck kts w (txt []) []) = 0
  rw [e1, if_neg (fun c => c rfl), e2, if_neg (fun c => c rfl), e3, if_neg (fun c => c rfl), e4, if_neg (fun c => c rfl)]
  unfold eck
  rw [if_pos (by kernel_rfl), if_neg (by simp)]
theorem two_whens : wfs 0 kts [] [ptQ [120] [97] 0 0, ptQ [121] [98] 0 0] = 0 := by
  rw [wfs, if_neg (fun c => c (pck_q (by kernel_rfl) (by kernel_rfl) (by decide +kernel) (by decide) (by decide))), wfs, if_neg (fun c => c (pck_q (by kernel_rfl) (by kernel_rfl) (by decide +kernel) (by decide) (by decide))), wfs]
theorem rck_dl {g h w : Int} (h0 : 0 ≤ g) (h1 : g ≤ h) (h2 : h ≤ 2000) (h3 : 0 ≤ w) (h4 : w ≤ 1000) : rck kts (dlR g h w) = 0 := by
 have a1 : ptq [ptQ [120] [97] 1 w] (txt [120]) = 0 := by kernel_rfl
 have a2 : ptq [ptQ [117] [98] 0 0] (txt [117]) = 0 := by kernel_rfl
 have a3 : seq (txt [120]) (txt [117]) = false := by kernel_rfl
 refine rck_q (by unfold szs rlQ; simp) (by rw [wfs, if_neg (fun c => c (pck_q (by kernel_rfl) (by kernel_rfl) (by decide +kernel) (by unfold wbad; omega) (by unfold rbad; omega))), wfs]) (by rw [nfs, if_neg (fun c => c (pck_q (by kernel_rfl) (by kernel_rfl) (by decide +kernel) (by decide) (by decide))), nfs]) rfl ?_
 have a4 : ¬ (seq (txt [120]) (txt [117]) = true ∨ (ptq [ptQ [120] [97] 1 w] (txt [120]) < 0 ∧ ptq [ptQ [120] [97] 1 w] (txt [117]) < 0)) := by
  rw [a3, a1]
  simp
 rw [lfs, if_neg (fun c => c (lck_q (by omega) a4 (ock_0 (by decide) (by decide) h0 (by omega) (.inr ⟨h1, by omega⟩)))), lfs]
/-! ### What options tell -/
theorem tz_st (g h : Int) (hh : 0 ≤ h) : B8.tzO (qo ⟨7, g, h⟩) 1 3 ≤ -1 ∧ B8.tzO (qo ⟨7, g, h⟩) 1 3 ≤ -g ∧ B8.tzO (qo ⟨7, g, h⟩) 3 1 ≤ h := by
  have e : ¬ h = -1 := by omega
  simp [B8.tzO, qo, B8.upv, B8.upm, B8.toldZ, B8.tellZ, B8.am, B8.upd, B8.pmI, B8.pmS, B8.apF, B8.apT, B8.fre, e]
  omega
theorem four (i : Nat) (h : i < 4) : i = 0 ∨ i = 1 ∨ i = 2 ∨ i = 3 := by omega
theorem kp_st {g h V : Int} {t : Nat → Int} (h0 : 0 ≤ g) (h1 : t 0 = 0) (h2 : t 1 = 0) (h3 : t 2 = 0) (h4 : t 3 = V) (hV : g ≤ V) (hV1 : 1 ≤ V) (hV2 : V ≤ h) (hh : h ≤ 2000) : ∀ i j, i < 4 → j < 4 → t i - t j ≤ B8.tzO (qo ⟨7, g, h⟩) i j := by
  intro i j hi hj
  have e : ¬ h = -1 := by omega
  rcases four i hi with rfl | rfl | rfl | rfl <;> rcases four j hj with rfl | rfl | rfl | rfl <;> simp [B8.tzO, qo, B8.upv, B8.upm, B8.toldZ, B8.tellZ, B8.am, B8.upd, B8.pmI, B8.pmS, B8.apF, B8.apT, B8.fre, h1, h2, h3, h4, e] <;> omega
/-! ### What the plans are -/
theorem bas_in {ws : List Pt} {t : Nat → Int} {a b : Nat} (hw : ∀ i, i < ws.length → (wAt ws i).w ≠ 1) (h0 : ∀ c d, t c - t d ≤ 1152921504606846976) (h1 : ∀ c, c % 2 = 0 → t c ≤ t (c + 1)) : t a - t b ≤ bas ws a b := by
 unfold bas b2
 by_cases c : a = b
 . rw [if_pos c, c]; omega
 . rw [if_neg c]
   by_cases d : a % 2 = 0 ∧ b = a + 1
   . rw [if_pos d, d.2]; have := h1 a d.1; omega
   . rw [if_neg d, if_neg]
     . exact h0 a b
     . rintro ⟨_, _, e1, e2, e3⟩
       by_cases q : b / 2 < ws.length
       . exact hw _ q e2
       . omega
theorem zC9 {α : Type} {x y : α} (h : x ∈ [y]) : x = y := List.mem_singleton.1 h
theorem zI2 {sp : List Pt} {n : ByteArray} {a b : Nat} (h : ptq sp n = (a : Int)) (e : ptq sp n = (b : Int)) : a = b := by omega
def tB (V : Int) : Nat → Int := fun i => if i = 3 then V else 0
theorem tB_le {V : Int} (h0 : 0 ≤ V) (h1 : V ≤ 10000000000000) (c d : Nat) : tB V c - tB V d ≤ 1152921504606846976 := by unfold tB; split <;> split <;> omega
theorem tB_up {V : Int} (c : Nat) (h : c % 2 = 0) : 0 ≤ V → tB V c ≤ tB V (c + 1) := by intro h0; unfold tB; split <;> split <;> omega
theorem opt_ok {r g h : Int} (h1 : 1 ≤ r) (h2 : r ≤ 13) (h3 : 0 ≤ g) (h4 : g ≤ h) (h5 : h ≤ 2000) : B8.optE r g h = 0 := by
  unfold B8.optE
  rw [if_pos ⟨h1, h2⟩, if_pos (by omega), if_neg (by omega)]
theorem zJ0 {w : Int} {t : Nat → Int} {a b : Nat} (h0 : ∀ c d, t c - t d ≤ 1152921504606846976) (h1 : ∀ c, c % 2 = 0 → t c ≤ t (c + 1)) : t a - t b ≤ bas [ptQ [120] [97] 1 w] a b := by
 unfold bas b2
 by_cases c : a = b
 . rw [if_pos c, c]; omega
 . rw [if_neg c]
   by_cases d : a % 2 = 0 ∧ b = a + 1
   . rw [if_pos d, d.2]; have := h1 a d.1; omega
   . rw [if_neg d, if_neg]
     . exact h0 a b
     . rintro ⟨e0, e1, e2, e3, e4⟩
       have e5 : [ptQ [120] [97] 1 w].length = 1 := rfl
       omega
theorem plO_dl {g h w : Int} (h0 : 0 ≤ g) (h1 : g ≤ h) (h2 : h ≤ 2000) (h3 : 0 ≤ w) (h4 : w ≤ 1000) : (plO (dlR g h w)).c = 0 ∧ (h < 1 → (plO (dlR g h w)).x = 0 ∧ (plO (dlR g h w)).z2 0 = 0) ∧ (1 ≤ h → (plO (dlR g h w)).x = h ∧ (plO (dlR g h w)).z1 0 = h + 1 ∧ (plO (dlR g h w)).z2 0 = h + 1 - max g 1) := by
 have hp := zBX (rck_dl h0 h1 h2 h3 h4)
 have a1 : ptq [ptQ [120] [97] 1 w] (txt [117]) = -1 := by kernel_rfl
 have a2 : ptq ([ptQ [120] [97] 1 w] ++ [ptQ [117] [98] 0 0]) (txt [120]) = 0 := by kernel_rfl
 have a3 : ptq ([ptQ [120] [97] 1 w] ++ [ptQ [117] [98] 0 0]) (txt [117]) = 1 := by kernel_rfl
 obtain ⟨M, hM, _⟩ : ∃ M, rmx [ptQ [120] [97] 1 w] [ptQ [120] [97] 1 w] [lkQ [120] 7 g h [117]] = some M ∧ _ := rmx_ge (t := fun _ => 0) (by show 2 * 1 ≤ 12; decide) hp.w (hp.k _) (fun a b _ _ => zJ0 (t := fun _ => 0) (fun _ _ => by show (0 : Int) - 0 ≤ _; decide) (fun _ _ => Int.le_refl _)) (fun k hk l r hl hr => by
   rw [zC9 hk] at hr
   have e2 : ptq [ptQ [120] [97] 1 w] (txt [117]) = (r : Int) := hr
   omega)
 have m11 : M 1 1 = 0 := (zEU (by show 2 * 1 ≤ 12; decide) hp.w (hp.k _) hM).2 1 (by show 1 < 2 * 1; decide)
 have hn : ∀ V : Int, g ≤ V → 1 ≤ V → V ≤ h → ∃ F, rmx [ptQ [120] [97] 1 w] ([ptQ [120] [97] 1 w] ++ [ptQ [117] [98] 0 0]) [lkQ [120] 7 g h [117]] = some F ∧ V ≤ F 3 1 ∧ -V ≤ F 1 3 := fun V v1 v2 v3 => by
   obtain ⟨F, hF, hq⟩ := rmx_ge (ws := [ptQ [120] [97] 1 w]) (sp := [ptQ [120] [97] 1 w] ++ [ptQ [117] [98] 0 0]) (ks := [lkQ [120] 7 g h [117]]) (t := tB V) (by show 2 * 2 ≤ 12; decide) hp.w (hp.k _) (fun a b _ _ => zJ0 (t := tB V) (tB_le (by omega) (by omega)) (fun c hc => tB_up c hc (by omega))) (fun k hk l r hl hr => by
    rw [zC9 hk] at hl hr ⊢
    obtain rfl := zI2 (b := 0) hl a2
    obtain rfl := zI2 (b := 1) hr a3
    exact opR_ge (o := ⟨7, g, h⟩) (opt_ok (r := 7) (by decide) (by decide) h0 h1 h2) (t := fun i => tB V (pm4 0 1 i)) (kp_st (V := V) h0 rfl rfl rfl rfl v1 v2 v3 h2))
   exact ⟨F, hF, by have h9 := hq 3 1 (by show 3 < 2 * 2; decide) (by show 1 < 2 * 2; decide); have e : tB V 3 - tB V 1 = V - 0 := rfl; omega, by have h9 := hq 1 3 (by show 1 < 2 * 2; decide) (by show 3 < 2 * 2; decide); have e : tB V 1 - tB V 3 = 0 - V := rfl; omega⟩
 have hup : ∀ F, rmx [ptQ [120] [97] 1 w] ([ptQ [120] [97] 1 w] ++ [ptQ [117] [98] 0 0]) [lkQ [120] 7 g h [117]] = some F → F 3 1 ≤ h ∧ F 1 3 ≤ -1 ∧ F 1 3 ≤ -g ∧ (F 1 3 ≤ 0 → F 3 1 ≤ 0 → 0 ≤ F 1 3 + F 3 1) := fun F hF => by
   obtain ⟨N, hN, hc, hle, hd⟩ := rmx_le (by show 2 * 2 ≤ 12; decide) hp.w (hp.k _) hF
   obtain ⟨R1, q1, r1⟩ := lks_at hN (lkQ [120] 7 g h [117]) (List.mem_cons_self ..) 0 1 a2 a3
   obtain ⟨z1, z2, z3⟩ := tz_st g h (by omega)
   have b1 := r1 1 (by decide) 3 (by decide)
   have b2 := r1 3 (by decide) 1 (by decide)
   have c1 := opR_le q1 1 3
   have c2 := opR_le q1 3 1
   have d1 := hle 1 3
   have d2 := hle 3 1
   have e1 : N 1 3 ≤ R1 1 3 := b1
   have e2 : N 3 1 ≤ R1 3 1 := b2
   refine ⟨by omega, by omega, by omega, fun f1 f2 => ?_⟩
   have g1 := hc 1 3 1 (by show 1 < 2 * 2; decide) (by show 3 < 2 * 2; decide) (by show 1 < 2 * 2; decide) (by omega) (by omega)
   have g2 := hd 1 (by show 1 < 2 * 2; decide)
   omega
 have gM : ∀ d : Int, pW M 1 d 0 = d + 1 := fun d => by
   show neeZ (max (M 1 1) (M 1 1)) d = d + 1
   unfold neeZ
   rw [m11, if_neg (by decide)]
   omega
 by_cases hh : 1 ≤ h
 . obtain ⟨R, hR, u1, u2⟩ := hn (max g 1) (by omega) (by omega) (by omega)
   obtain ⟨R', hR', u3, u4⟩ := hn h (by omega) (by omega) (by omega)
   rw [hR] at hR'
   obtain rfl := Option.some.inj hR'
   obtain ⟨v1, v2, v3, _⟩ := hup R hR
   have e1 : R 3 1 = h := by omega
   have e2 : R 1 3 = -(max g 1) := by omega
   have hd : dly 1 (nmx [ptQ [120] [97] 1 w] [lkQ [120] 7 g h [117]] [ptQ [117] [98] 0 0]) 1 = some h := by
    rw [dly, dly]
    simp only
    rw [show nmx [ptQ [120] [97] 1 w] [lkQ [120] 7 g h [117]] [ptQ [117] [98] 0 0] 0 = some R from hR]
    simp only
    have hl : leaZ R (2 * 1 + 1) 1 = h := by
     show min 1152921504606846976 (R 3 1) = h
     rw [e1]; omega
    rw [hl, if_neg (by unfold nob; omega)]
    congr 1
    omega
   have e : plO (dlR g h w) = ⟨h, 0, 1, 1, 0, pW M 1 h, pN (nmx [ptQ [120] [97] 1 w] [lkQ [120] 7 g h [117]] [ptQ [117] [98] 0 0]) 1 h, pM [] h⟩ := by
    unfold plO
    rw [show rmx (dlR g h w).w (dlR g h w).w (dlR g h w).k = some M from hM]
    simp only
    rw [show dly (dlR g h w).w.length (nmx (dlR g h w).w (dlR g h w).k (dlR g h w).t) (dlR g h w).t.length = some h from hd]
    rfl
   rw [e]
   refine ⟨rfl, fun c => by omega, fun _ => ⟨rfl, gM h, ?_⟩⟩
   show pN _ 1 h 0 = _
   unfold pN
   rw [show nmx [ptQ [120] [97] 1 w] [lkQ [120] 7 g h [117]] [ptQ [117] [98] 0 0] 0 = some R from hR]
   show max (neeZ (max (R 1 3) (R 1 3)) h) 0 = _
   unfold neeZ
   rw [e2, if_neg (by omega)]
   omega
 . have hR : rmx [ptQ [120] [97] 1 w] ([ptQ [120] [97] 1 w] ++ [ptQ [117] [98] 0 0]) [lkQ [120] 7 g h [117]] = none := by
    cases hF : rmx [ptQ [120] [97] 1 w] ([ptQ [120] [97] 1 w] ++ [ptQ [117] [98] 0 0]) [lkQ [120] 7 g h [117]] with
    | none => rfl
    | some F =>
     exfalso
     obtain ⟨v1, v2, v3, v4⟩ := hup F hF
     have := v4 (by omega) (by omega)
     omega
   have hd : dly 1 (nmx [ptQ [120] [97] 1 w] [lkQ [120] 7 g h [117]] [ptQ [117] [98] 0 0]) 1 = some 0 := by
    rw [dly, dly]
    simp only
    rw [show nmx [ptQ [120] [97] 1 w] [lkQ [120] 7 g h [117]] [ptQ [117] [98] 0 0] 0 = none from hR]
   have e : plO (dlR g h w) = ⟨0, 0, 1, 1, 0, pW M 1 0, pN (nmx [ptQ [120] [97] 1 w] [lkQ [120] 7 g h [117]] [ptQ [117] [98] 0 0]) 1 0, pM [] 0⟩ := by
    unfold plO
    rw [show rmx (dlR g h w).w (dlR g h w).w (dlR g h w).k = some M from hM]
    simp only
    rw [show dly (dlR g h w).w.length (nmx (dlR g h w).w (dlR g h w).k (dlR g h w).t) (dlR g h w).t.length = some 0 from hd]
    rfl
   rw [e]
   refine ⟨rfl, fun _ => ⟨rfl, ?_⟩, fun c => absurd c hh⟩
   show pN _ 1 0 0 = _
   unfold pN
   rw [show nmx [ptQ [120] [97] 1 w] [lkQ [120] 7 g h [117]] [ptQ [117] [98] 0 0] 0 = none from hR]
/-! ### What events are needed for -/
theorem ofR_one {x : Rl} (h : rck kts x = 0) (he : x.e.ty = txt []) (hc : (plO x).c = 0) : ofR kts [x] = (rA kts x (plO x) (fun _ => 0), 0) := by
  unfold ofR
  rw [if_neg (fun c => c (zHY h he)), ofz, if_neg (fun c => c hc), ofz]
theorem ty_a : tyq kts (txt [97]) = 0 := by decide +kernel
theorem ty_b : tyq kts (txt [98]) = 1 := by decide +kernel
theorem rA_dl (g h w : Int) (P : PlP) : rA kts (dlR g h w) P (fun _ => 0) 0 = max 0 (P.z1 0) ∧ rA kts (dlR g h w) P (fun _ => 0) 1 = max 0 (P.z2 0) ∧ rA kts (dlR g h w) P (fun _ => 0) 2 = 0 := by
  unfold rA dlR rlQ
  simp [rM, rW, rz, wAt, ptQ, ty_a, ty_b]
end Go.Proofs.YtnlmknbhppdliaaGreatDoor.Chk
namespace Go.Proofs.YtnlmknbhppdliaaGreatDoor.Chk
open Go.ChangeShapes Go.WideShapes Go.ChangeAt Go.RowKit Go.Maps
open B8 (Mx OwnM New zA5)
set_option linter.unusedVariables false
set_option linter.unusedSimpArgs false
set_option maxRecDepth 20000
theorem zFQ {P : Program} {ops : Array Oper} {rest : List Oper} {o : Oper} {a : Act} {w : World} {Q : Exit → Act → World → Prop} (hgd : o.guard = none) (t : TypeId) (n : Nat) (parts : Array (Nat × Operand)) (ho : o.op = .buildSlice t n parts) (vals : Array (Nat × Value)) (hp : (parts.map fun x => (x.1, a.eval x.2)) = vals) (cs : List Value) (U : TypeId) (hv : ∀ w, (Instr.buildSlice t n vals).run P w = .ok (.slice (some ⟨w.heap.size, 0, none⟩) n n) (w.alloc (.cells cs.toArray U)))
  (h : ∀ b w', w'.heap[b]? = some (.cells cs.toArray U (0, 0)) → Below w.heap.size w w' → w.heap.size ≤ b → b < w'.heap.size → wpList P ops Q rest (a.put o.dst (.slice (some ⟨b, 0, none⟩) n n)) w') : wpList P ops Q (o :: rest) a w := by
 refine wpList_plain hgd fun K hK => ?_
 unfold Oper.wp execOp
 simp only [ho, Sem.run_bind, hp, hv, Result.andThen_ok, Sem.run_pure]
 exact hK _ _ (h _ _ (heap_alloc_new _ _) ((Below.refl _ _).alloc (Nat.le_refl _) _) (Nat.le_refl _) (by simp))
theorem rdp_q (w : World) (v t : List UInt8) (k n : Int) : RdL w (encP (ptQ v t k n)) [.string (txt v), .string (txt t), .int .i64 0, .slice none 0 0, .int .i64 0, .int .i64 0, .int .i64 0, .string ⟨#[]⟩, .string ⟨#[]⟩, .string ⟨#[]⟩, .int .i64 0, .int .i64 0, .int .i64 0, .string ⟨#[]⟩, .string ⟨#[]⟩, .string ⟨#[]⟩, .int .i64 k, .int .i64 n] :=
  .cons (.lit _) (.cons (.lit _) (.cons (.lit _) (.cons (.nil _ _ none 0 (Nat.zero_le _)) (zBR [.int .i64 0, .int .i64 0, .int .i64 0, .string ⟨#[]⟩, .string ⟨#[]⟩, .string ⟨#[]⟩, .int .i64 0, .int .i64 0, .int .i64 0, .string ⟨#[]⟩, .string ⟨#[]⟩, .string ⟨#[]⟩, .int .i64 k, .int .i64 n]))))
theorem rd_p1 {w : World} {b : Nat} {v t : List UInt8} {k n : Int} (h : w.heap[b]? = some (.cells #[.string (txt v), .string (txt t), .int .i64 0, .slice none 0 0, .int .i64 0, .int .i64 0, .int .i64 0, .string ⟨#[]⟩, .string ⟨#[]⟩, .string ⟨#[]⟩, .int .i64 0, .int .i64 0, .int .i64 0, .string ⟨#[]⟩, .string ⟨#[]⟩, .string ⟨#[]⟩, .int .i64 k, .int .i64 n] 48 (0, 0))) : Rd w (.row 48 18 ([ptQ v t k n].map encP)) (.slice (some ⟨b, 0, none⟩) 1 1) :=
  zCD (l := [ptQ v t k n].map encP) h (by simp) (by show 1 ≤ maxLen; decide) (by rw [List.map_cons, List.map_nil, List.flatten_cons, List.flatten_nil, List.append_nil]; exact rdp_q w v t k n)
theorem rd_o1 {w : World} {b : Nat} {r lo hi : Int} (h : w.heap[b]? = some (.cells #[.int .i64 r, .int .i64 lo, .int .i64 hi] 63 (0, 0))) : Rd w (.row 63 3 (([⟨r, lo, hi⟩] : List Op3).map encQ)) (.slice (some ⟨b, 0, none⟩) 1 1) :=
  zCD (l := ([⟨r, lo, hi⟩] : List Op3).map encQ) h (by simp) (by show 1 ≤ maxLen; decide) (zBR [.int .i64 r, .int .i64 lo, .int .i64 hi])
theorem rd_k1 {w : World} {b c : Nat} {l k : List UInt8} {r lo hi : Int} (h : w.heap[b]? = some (.cells #[.string (txt l), .slice (some ⟨c, 0, none⟩) 1 1, .string (txt k)] 66 (0, 0))) (ho : w.heap[c]? = some (.cells #[.int .i64 r, .int .i64 lo, .int .i64 hi] 63 (0, 0))) : Rd w (.row 66 3 ([lkQ l r lo hi k].map encK)) (.slice (some ⟨b, 0, none⟩) 1 1) :=
  zCD (l := [lkQ l r lo hi k].map encK) h (by simp) (by show 1 ≤ maxLen; decide) (.cons (.lit _) (.cons (rd_o1 ho) (.cons (.lit _) (RdL.nil _))))
theorem rd_r1 {w : World} {b : Nat} {ws ts : List Pt} {ms : List Mn} {ks : List Lk} {u1 u2 u3 u4 : Value} (h : w.heap[b]? = some (.cells #[.string ⟨#[114]⟩, u1, u2, u3, u4, .string ⟨#[]⟩, .slice none 0 0] 56 (0, 0))) (h1 : Rd w (.row 48 18 (ws.map encP)) u1) (h2 : Rd w (.row 48 18 (ts.map encP)) u2) (h3 : Rd w (.row 78 20 (ms.map encM)) u3) (h4 : Rd w (.row 66 3 (ks.map encK)) u4) : Rd w (.row 56 7 ([rlQ ws ts ms ks].map encR)) (.slice (some ⟨b, 0, none⟩) 1 1) :=
  zCD (l := [rlQ ws ts ms ks].map encR) h (by simp) (by show 1 ≤ maxLen; decide) (.cons (.lit _) (.cons h1 (.cons h2 (.cons h3 (.cons h4 (.cons (.lit _) (.cons (.nil _ _ none 0 (Nat.zero_le _)) (RdL.nil _))))))))
theorem wsz_q : Wsz cn0 := .mk _ [] rfl (by decide) (by decide) (fun x hx => by cases hx)
theorem szr_q {ws ts : List Pt} {ms : List Mn} {ks : List Lk} (h1 : ∀ p, p ∈ ws → p.c = cn0) (h2 : ∀ p, p ∈ ts → p.c = cn0) (h3 : ∀ m, m ∈ ms → m.p.c = cn0) (h4 : ∀ k, k ∈ ks → k.l.size ≤ maxLen ∧ k.r.size ≤ maxLen) : Szr (rlQ ws ts ms ks) :=
  ⟨fun p hp => by rw [h1 p hp]; exact wsz_q, fun p hp => by rw [h2 p hp]; exact wsz_q, fun m hm => by rw [h3 m hm]; exact wsz_q, fun k hk => h4 k hk, fun o ho => (by cases ho)⟩
theorem sz1 (x : UInt8) : (txt [x]).size ≤ maxLen := by show 1 ≤ maxLen; decide
theorem szr_dl (g h w : Int) : Szr (dlR g h w) := szr_q (fun p hp => by rw [zC9 hp]; rfl) (fun p hp => by rw [zC9 hp]; rfl) (fun p hp => by cases hp) (fun k hk => by rw [zC9 hk]; exact ⟨sz1 _, sz1 _⟩)
end Go.Proofs.YtnlmknbhppdliaaGreatDoor.Chk
