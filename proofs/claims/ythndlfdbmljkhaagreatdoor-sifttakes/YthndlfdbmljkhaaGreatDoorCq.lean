/-
  A rule, by the reference.
-/
import Derived.Deep.CutBlock
import Derived.Deep.LoopGhost
import Derived.Test.YthndlfdbmljkhaaGreatDoorCp
import Derived.Test.YthndlfdbmljkhaaGreatDoorCh
import Derived.Test.YthndlfdbmljkhaaGreatDoorCj
namespace Go.Proofs.YthndlfdbmljkhaaGreatDoor.Chk
open Go.ChangeShapes Go.WideShapes Go.ChangeAt Go.RowKit Go.Maps
set_option linter.unusedVariables false
set_option linter.unusedSimpArgs false
set_option maxRecDepth 20000
def wfs (X : Int) (ts : List Tp) (done : List Pt) : List Pt → Int
  | [] => X
  | p :: r => if pck ts done (done.map Pt.va) p 0 ≠ 0 then pck ts done (done.map Pt.va) p 0 else wfs X ts (done ++ [p]) r
def nfs (X : Int) (ts : List Tp) (ws : List Pt) (ah : List ByteArray) : List Pt → Int
  | [] => X
  | p :: r => if pck ts ws ah p 1 ≠ 0 then pck ts ws ah p 1 else nfs X ts ws (ah ++ [p.va]) r
def mbad (m : Mn) : Bool := (emp m.f && !(decide (1 ≤ m.c) && decide (m.c ≤ 120))) || !(decide (0 ≤ m.c) && decide (m.c ≤ 1125899906842624))
def mck (ts : List Tp) (ws : List Pt) (ah : List ByteArray) (m : Mn) : Int :=
  if mbad m = true then 2
  else if pck ts ws ah m.p 2 ≠ 0 then pck ts ws ah m.p 2
  else if emp m.f = true then 0 else sck (ts.getD (tyq ts m.p.ty).toNat ⟨txt [], []⟩).f m.f
def mfs (X : Int) (ts : List Tp) (ws : List Pt) (ah : List ByteArray) : List Mn → Int
  | [] => X
  | m :: r => if mck ts ws ah m ≠ 0 then mck ts ws ah m else mfs X ts ws (ah ++ [m.p.va]) r
def lfs (X : Int) (ws ns : List Pt) : List Lk → Int
  | [] => X
  | k :: r => if lck ws ns k.l k.r k.o ≠ 0 then lck ws ns k.l k.r k.o else lfs X ws ns r
def szs (r : Rl) : Prop := 1 ≤ r.w.length ∧ r.w.length ≤ 3 ∧ r.t.length ≤ 2 ∧ r.m.length ≤ 2 ∧ r.k.length ≤ 6
instance (r : Rl) : Decidable (szs r) := by unfold szs; infer_instance
def rck (ts : List Tp) (r : Rl) : Int :=
  if frn r.n ≠ 0 then frn r.n else if ¬ szs r then 1
  else wfs (nfs (mfs (lfs (eck ts r.w r.e.ty r.e.v) r.w r.t r.k) ts r.w (r.w.map Pt.va ++ r.t.map Pt.va) r.m) ts r.w (r.w.map Pt.va) r.t) ts [] r.w
theorem wp_appS {P : Program} {ops : Array Oper} {rest : List Oper} {o : Oper} {a : Act} {w : World} {Q : Exit → Act → World → Prop} (hgd : o.guard = none) (s x : Operand) (t : TypeId)
   (ho : o.op = .call { callee := .builtin .append, args := #[s, x], argTypes := #[t, t] }) (e : TypeId) (i : TypeInfo) (zv : Value) (z bytes : Nat) (ht : P.underlying t = some (.slice e)) (hi : P.info? e = some i) (hz : i.zero = some zv)
   (hsize : i.size = z) (hby : i.bytes = bytes) (hzs : zv.cells.size = z) (hsz : 0 < z) (S : Nat → Prop) (v : Value) (l : List (List Dat)) (hs : a.eval s = v) (hrow : Row w S e z v l) (hb : S w.heap.size) (d : List Dat) (us : List Value) (ad : Addr)
   (hx : a.eval x = .slice (some ad) 1 1) (hl : us.length = 1 * z) (hnews : ∀ j u, us[j]? = some u → w.cell? (ad.add j) = some u) (h1 : us.all (·.oneCell') = true) (hd : HoldsL w (fun i => S i ∧ v.ownBlock ≠ some i) d us) (h700 : l.length ≤ 800) (hbb : bytes ≤ 100000)
   (h : ∀ v' w', Row w' S e z v' (l ++ [d]) → w.grownBy w' v.ownBlock → (∀ k, v.ownBlock = some k → S k) → wpList P ops Q rest (a.put o.dst v') w') : wpList P ops Q (o :: rest) a w := by
 obtain ⟨xs, r1, r2, r3⟩ := hrow
 refine wpList_append_own_at _ hgd s x t ho 0 e i zv z bytes ht hi hz hsize hby hzs hsz v l.length xs hs r1 ad 1 1 us hx hl hnews (List.all_eq_true.1 h1) (by unfold maxLen; omega) ?_ (Nat.zero_le _) ?_
 . have : (l.length + 1) * bytes ≤ 801 * 100000 := Nat.mul_le_mul (by omega) hbb
   omega
 . intro v' w' q1 q2 q3 q4
   refine h v' w' ?_ q2 r2
   refine (Row.append r3 hd (by simpa using q1) q2 q4 r2).mono fun i hi _ => ⟨?_, rfl⟩
   rcases hi with c | c
   . exact c
   . show S i; rw [c]; exact hb
theorem pck_known {ts : List Tp} {kn : List Pt} {ah : List ByteArray} {p : Pt} {part : Int} (h : pck ts kn ah p part = 0) : ∃ i, ∃ _ : i < ts.length, tyq ts p.ty = (i : Int) := by
 rcases ixq_lt (q := fun t : Tp => seq t.n p.ty) ts 0 with c | ⟨i, hi, c, _⟩
 . exfalso
   have c0 : tyq ts p.ty = -1 := c
   unfold pck at h
   split at h
   . rename_i h1; exact h1 h
   . split at h
     . omega
     . rw [if_pos (by rw [c0]; decide)] at h
       omega
 . exact ⟨i, hi, by show ixq _ _ _ = _; rw [c]; simp⟩
theorem known_snoc {ts : List Tp} {kn : List Pt} {p : Pt} (h : Known ts kn) (hp : ∃ i, ∃ _ : i < ts.length, tyq ts p.ty = (i : Int)) : Known ts (kn ++ [p]) := fun j hj => by
 by_cases c : j < kn.length
 . rw [List.getElem_append_left c]
   exact h j c
 . have e : j = kn.length := by simp at hj; omega
   subst e
   simpa using hp
theorem infoS9 : (Tryz.prog.info? 9).map (fun i => (i.zero, i.size, i.bytes)) = some (some (.string ByteArray.empty), 1, 16) := by kernel_rfl
theorem BlkT.grown {w0 w w' : World} {us : List Value} {t : TypeId} {row : Option Nat} (h : BlkT w0 w us t) (hg : w.grownBy w' row) (hr : ∀ k, row = some k → w0.heap.size < k) : BlkT w0 w' us t :=
  ⟨((Fr.of_below (X := fun _ => False) h.bel).grown hg (fun k hk => .inr (Nat.le_of_lt (hr k hk)))).below, (hg.block _ (blk_lt h.b1) (fun e => by have := hr _ e.symm; omega)).trans h.b1⟩
theorem BlkT.alloc {w0 w : World} {us : List Value} {t : TypeId} (h : BlkT w0 w us t) (o : Obj) : BlkT w0 (w.alloc o) us t := h.next ((Below.refl _ _).alloc (Nat.le_refl _) _)
theorem Row.later {w w' : World} {S : Nat → Prop} {e z : Nat} {v : Value} {l : List (List Dat)} (h : Row w S e z v l) (hb : Below w.heap.size w w') : Row w' S e z v l := h.mono fun i hi hl => ⟨hi, hb.block i hl⟩
theorem rdK {w : World} {k : Lk} {vs : List Value} (h : RdL w (encK k) vs) : ∃ v, vs = [.string k.l, v, .string k.r] ∧ Rd w (.row 108 3 (k.o.map encQ)) v := by
  obtain ⟨v0, r0, rfl, h0, h⟩ := RdL.one h
  obtain ⟨v1, r1, rfl, h1, h⟩ := RdL.one h
  obtain ⟨v2, r2, rfl, h2, h⟩ := RdL.one h
  rw [rd_lit h0, rd_lit h2, RdL.none h]
  exact ⟨v1, rfl, h1⟩
theorem ent_patternFault : ∀ args w, (callFunc 73 args).run Tryz.prog w = .ok (.enter 73 args) w := enters_of Tryz.func73 (by kernel_rfl) rfl
theorem ent_sumFault : ∀ args w, (callFunc 74 args).run Tryz.prog w = .ok (.enter 74 args) w := enters_of Tryz.func74 (by kernel_rfl) rfl
theorem ent_linkFault : ∀ args w, (callFunc 75 args).run Tryz.prog w = .ok (.enter 75 args) w := enters_of Tryz.func75 (by kernel_rfl) rfl
theorem ovr_all {cs vs : List Value} (h : vs.length = cs.length) : ovr cs 0 vs = vs := by
  unfold ovr
  simp [h]
theorem new_store {w w1 : World} {o : Obj} (h : Fr (fun i => i = w.heap.size) (w.alloc o) w1) : Below w.heap.size w w1 :=
  ⟨h.os, h.tape, h.output, by have := h.size; simp at this; omega, fun k hk => (h.block k (by simp; omega) (by omega)).trans (Below.heap_alloc _ _ _ hk)⟩
theorem range_tail {w : World} {b : Nat} {A B : List Value} {x y : Value} {t : TypeId} (h : w.heap[b]? = some (.cells A.toArray t (0, 0))) (hA : A = x :: y :: B) : w.rangeAt b 2 B := fun j v hv => by
  rw [cell_of_blk h, hA]
  rw [List.getElem?_toArray, show 2 + j = j + 1 + 1 by omega]
  simpa using hv
theorem range_cell {w : World} {b o : Nat} {B : List Value} (h : w.rangeAt b o B) {j : Nat} {v : Value} (hv : B[j]? = some v) : w.cell? ⟨b, o + j, none⟩ = some v := h j v hv
theorem Row.out {w : World} {S : Nat → Prop} {e z : Nat} {v : Value} {l : List (List Dat)} (h : Row w S e z v l) : Rd w (.row e z l) v := rd_of_holds h.holds
theorem rd_shape {w : World} {e z : Nat} {l : List (List Dat)} {v : Value} (h : Rd w (.row e z l) v) : ∃ p n cap, v = .slice p n cap := by
  cases h with
  | nil e z p cap h => exact ⟨_, _, _, rfl⟩
  | row e z l g off cap xs h1 h2 h3 h4 h5 h6 => exact ⟨_, _, _, rfl⟩
theorem mck_bad {ts : List Tp} {ws : List Pt} {ah : List ByteArray} {m : Mn} (h : mbad m = true) : mck ts ws ah m = 2 := by unfold mck; rw [if_pos h]
theorem mck_pat {ts : List Tp} {ws : List Pt} {ah : List ByteArray} {m : Mn} (h : mbad m = false) (h2 : pck ts ws ah m.p 2 ≠ 0) : mck ts ws ah m = pck ts ws ah m.p 2 := by unfold mck; rw [if_neg (by rw [h]; decide), if_pos h2]
theorem mck_ok {ts : List Tp} {ws : List Pt} {ah : List ByteArray} {m : Mn} (h : mbad m = false) (h2 : pck ts ws ah m.p 2 = 0) : mck ts ws ah m = if emp m.f = true then 0 else sck (ts.getD (tyq ts m.p.ty).toNat ⟨txt [], []⟩).f m.f := by unfold mck; rw [if_neg (by rw [h]; decide), if_neg (fun c => c h2)]
theorem end_many {X3 R E : Int} {ts : List Tp} {ws : List Pt} {N0 : List ByteArray} {ms : List Mn} {x : Mn} {k : Nat} {W : World} {S : Nat → Prop} {V : Value} (htk : ms.take (k + 1) = ms.take k ++ [x]) (hkn : Known ts ws)
   (h : (if E ≠ 0 then E else mfs X3 ts ws (N0 ++ (ms.take k).map (fun m => m.p.va) ++ [x.p.va]) (ms.drop (k + 1))) = R) (h9 : Row W S 9 1 V ((N0 ++ (ms.take k).map (fun m => m.p.va)).map encS ++ [encS x.p.va])) :
   (E = 0 ∧ Known ts ws ∧ mfs X3 ts ws (N0 ++ (ms.take (k + 1)).map (fun m => m.p.va)) (ms.drop (k + 1)) = R ∧ Row W S 9 1 V ((N0 ++ (ms.take (k + 1)).map (fun m => m.p.va)).map encS)) ∨ (E ≠ 0 ∧ E = R) := by
 by_cases hz : E = 0
 . rw [if_neg (fun c => c hz)] at h
   refine .inl ⟨hz, hkn, ?_, ?_⟩
   . rw [htk]; simpa using h
   . rw [htk]; simpa using h9
 . rw [if_pos hz] at h
   exact .inr ⟨hz, h⟩
set_option maxHeartbeats 64000000 in
theorem ruleFault_ok (ts : List Tp) (r : Rl) (hwf : (∀ t, t ∈ r.w → Wfc t.c) ∧ (∀ t, t ∈ r.t → Wfc t.c) ∧ (∀ m, m ∈ r.m → Wfc m.p.c)) (tv u1 u2 u3 u4 u5 : Value) (w : World) (hT : Rd w (.row 72 2 (ts.map encY)) tv) (h1 : Rd w (.row 65 18 (r.w.map encP)) u1) (h2 : Rd w (.row 65 18 (r.t.map encP)) u2) (h3 : Rd w (.row 68 20 (r.m.map encM)) u3) (h4 : Rd w (.row 103 3 (r.k.map encK)) u4) (h5 : Rd w (.row 61 6 (r.e.v.map encO)) u5) (hf0 : frn r.n = 0) (hsz : szs r) :
  Calls Tryz.prog 36 #[tv, .agg #[.string r.n, u1, u2, u3, u4, .string r.e.ty, u5]] w fun e w' => e = .returned (.int .i64 (wfs (nfs (mfs (lfs (eck ts r.w r.e.ty r.e.v) r.w r.t r.k) ts r.w (r.w.map Pt.va ++ r.t.map Pt.va) r.m) ts r.w (r.w.map Pt.va) r.t) ts [] r.w)) ∧ Below w.heap.size w w' := by
 obtain ⟨rn, ws, ns, ms, ks, ⟨ety, vs⟩⟩ := r
 simp only at hwf h1 h2 h3 h4 h5 hf0 hsz ⊢
 have HRT := hid hT
 have HR1 := hid h1
 have HR2 := hid h2
 have HR5 := hid h5
 obtain ⟨tp, tc, e0, m0, a0⟩ := rd_row lenY hT
 obtain ⟨q1, j1, e1, m1, a1⟩ := rd_row lenP h1
 obtain ⟨q2, j2, e2, m2, a2⟩ := rd_row lenP h2
 obtain ⟨q3, j3, e3, m3, a3⟩ := rd_row lenM h3
 obtain ⟨q4, j4, e4, m4, a4⟩ := rd_row lenK h4
 obtain ⟨q5, j5, e5, m5, a5⟩ := rd_row lenO h5
 subst e0 e1 e2 e3 e4 e5
 have hc1 := rd_cap h1
 obtain ⟨nt, hnt⟩ : ∃ l, ts.length = l := ⟨_, rfl⟩
 obtain ⟨l1, hl1⟩ : ∃ l, ws.length = l := ⟨_, rfl⟩
 obtain ⟨l2, hl2⟩ : ∃ l, ns.length = l := ⟨_, rfl⟩
 obtain ⟨l3, hl3⟩ : ∃ l, ms.length = l := ⟨_, rfl⟩
 obtain ⟨l4, hl4⟩ : ∃ l, ks.length = l := ⟨_, rfl⟩
 obtain ⟨l5, hl5⟩ : ∃ l, vs.length = l := ⟨_, rfl⟩
 rw [hnt] at HRT
 rw [hl1] at HR1 hc1
 rw [hl2] at HR2
 rw [hl5] at HR5
 unfold szs at hsz
 simp only at hsz
 rw [hl1, hl2, hl3, hl4] at hsz
 rw [hnt, hl1, hl2, hl3, hl4, hl5]
 have HC1 := hid hc1
 have HNT := hid hnt
 have HN1 := hid hl1
 have HN2 := hid hl2
 have HN3 := hid hl3
 have HN4 := hid hl4
 have HWF := hid hwf
 have HA0 : Hid (At encY 2 w tp ts) := a0
 have HA1 : Hid (At encP 18 w q1 ws) := a1
 have HA2 : Hid (At encP 18 w q2 ns) := a2
 have HA3 : Hid (At encM 20 w q3 ms) := a3
 have HA4 : Hid (At encK 3 w q4 ks) := a4
 have HT : Hid (BlkT w (w.alloc (.cells [.string rn, (.slice q1 l1 j1), (.slice q2 l2 j2), (.slice q3 l3 j3), (.slice q4 l4 j4), .string ety, (.slice q5 l5 j5)].toArray 49)) [.string rn, (.slice q1 l1 j1), (.slice q2 l2 j2), (.slice q3 l3 j3), (.slice q4 l4 j4), .string ety, (.slice q5 l5 j5)] 49) := BlkT.start w _ _
 have HSZ := hid hsz
 have HFN : Hid (∀ W, Calls Tryz.prog 72 #[.string rn] W fun e w' => e = .returned (.int .i64 0) ∧ Below W.heap.size W w') := fun W => by rw [← hf0]; exact freeName_any rn W
 obtain ⟨X4, hX4⟩ : ∃ X, eck ts ws ety vs = X := ⟨_, rfl⟩
 obtain ⟨X3, hX3⟩ : ∃ X, lfs X4 ws ns ks = X := ⟨_, rfl⟩
 obtain ⟨X2, hX2⟩ : ∃ X, mfs X3 ts ws (ws.map Pt.va ++ ns.map Pt.va) ms = X := ⟨_, rfl⟩
 obtain ⟨X1, hX1⟩ : ∃ X, nfs X2 ts ws (ws.map Pt.va) ns = X := ⟨_, rfl⟩
 obtain ⟨R, hR⟩ : ∃ X, wfs X1 ts [] ws = X := ⟨_, rfl⟩
 rw [hX4, hX3, hX2, hX1, hR]
 have HAA := hid hR
 have HX1 := hid hX1
 have HX2 := hid hX2
 have HX3 := hid hX3
 have HX4 := hid hX4
 obtain ⟨i0, b1, b2, b3, b4⟩ := info_parts infoS9
 have HI : Hid (Tryz.prog.info? 9 = some i0 ∧ i0.zero = some (.string ByteArray.empty) ∧ i0.size = 1 ∧ i0.bytes = 16) := ⟨b1, b2, b3, b4⟩
 have HIN : Hid (∀ W, Calls Tryz.prog 17 #[.int .i64 (l1 : Int), .int .i64 1, .int .i64 3] W fun e w' => e = .returned (.bool true) ∧ w' = W) := fun W => in_any (l1 : Int) _ _ true (say_true (by omega)) W
 have c2 : ¬ (2 : Int) < (l2 : Int) := by omega
 have c3 : ¬ (2 : Int) < (l3 : Int) := by omega
 have c4 : ¬ (6 : Int) < (l4 : Int) := by omega
 have cs : ∀ W, BlkT w W [.string rn, (.slice q1 l1 j1), (.slice q2 l2 j2), (.slice q3 l3 j3), (.slice q4 l4 j4), .string ety, (.slice q5 l5 j5)] 49 → W.cell? ⟨w.heap.size, 1, none⟩ = some (.slice q1 l1 j1) ∧ W.cell? ⟨w.heap.size, 2, none⟩ = some (.slice q2 l2 j2) ∧ W.cell? ⟨w.heap.size, 3, none⟩ = some (.slice q3 l3 j3) ∧ W.cell? ⟨w.heap.size, 4, none⟩ = some (.slice q4 l4 j4) := fun W h => ⟨h.c 1, h.c 2, h.c 3, h.c 4⟩
 have HCS := hid cs
 clear cs b1 b2 b3 b4 hX1 hX2 hX3 hX4 hR hT h1 h2 h3 h4 h5 a0 a1 a2 a3 a4 a5 hnt hl1 hl2 hl3 hl4 hl5 hf0 hsz hwf hc1
 go_enter Tryz.func36, Tryz.ntmps36
 go_upto_block 0 with (first
  | (go_at_call 17; refine (HIN.out _).mono ?_; rintro e w' ⟨rfl, rfl⟩)
  | (go_at_call 72; refine (HFN.out _).mono ?_; rintro e w2 ⟨rfl, hb_⟩; have HT2 : Hid _ := HT.out.next hb_; obtain ⟨g1, g2, g3, g4⟩ := HCS.out _ HT2.out; clear hb_))
 clear HT g1 g2 g3 g4 HFN HIN c2 c3 c4
 have HT := HT2
 clear HT2
 go_cut [5, 6, 7] from 42 to 73 (fun e v _ wr => ∃ (e1 : Int) (pv : Option Addr) (nv cv : Nat), e = .int .i64 e1 ∧ v = .slice pv nv cv ∧ BlkT w wr [.string rn, (.slice q1 l1 j1), (.slice q2 l2 j2), (.slice q3 l3 j3), (.slice q4 l4 j4), .string ety, (.slice q5 l5 j5)] 49 ∧ ((e1 = 0 ∧ Known ts ws ∧ X1 = R ∧ Row wr (fun i => w.heap.size < i) 9 1 v ((ws.map Pt.va).map encS)) ∨ (e1 ≠ 0 ∧ e1 = R)))
 case first =>
  go_wp2_with fail
  go_loopg [5, 6, 7] (l1 + 1) (fun gg e v i wr => ∃ (k : Nat) (e1 : Int) (pv : Option Addr) (nv cv : Nat), k ≤ l1 ∧ gg = l1 + 1 - k ∧ i = .int .i64 (k : Nat) ∧ e = .int .i64 e1 ∧ v = .slice pv nv cv ∧ BlkT w wr [.string rn, (.slice q1 l1 j1), (.slice q2 l2 j2), (.slice q3 l3 j3), (.slice q4 l4 j4), .string ety, (.slice q5 l5 j5)] 49 ∧ ((e1 = 0 ∧ Known ts (ws.take k) ∧ wfs X1 ts (ws.take k) (ws.drop k) = R ∧ Row wr (fun i => w.heap.size < i) 9 1 v (((ws.take k).map Pt.va).map encS)) ∨ (e1 ≠ 0 ∧ e1 = R)))
  case atStart => exact ⟨0, 0, none, 0, 0, by omega, by omega, rfl, rfl, rfl, HT.out, .inl ⟨rfl, fun j hj => by simp at hj, HAA.out, Row.nil _ _ _ _⟩⟩
  case round =>
   obtain ⟨k, e1, pv, nv, cv, hk, rfl, rfl, rfl, rfl, hTr, hc⟩ := hrel
   clear HT
   have HT : Hid (BlkT w wr [.string rn, (.slice q1 l1 j1), (.slice q2 l2 j2), (.slice q3 l3 j3), (.slice q4 l4 j4), .string ety, (.slice q5 l5 j5)] 49) := hTr
   have a1 : wr.cell? ⟨w.heap.size, 1, none⟩ = some (.slice q1 l1 j1) := hTr.c 1
   rcases hc with ⟨rfl, hkn, hev, hrow⟩ | ⟨he, hA⟩
   . have HRW := hid hrow
     by_cases hlt : k < l1
     . have hkc : k < ws.length := by have := HN1.out; omega
       obtain ⟨g, off, hp, hrd⟩ := HA1.out (by omega)
       have HQ := hid hp
       rw [hp] at a1
       obtain ⟨A, r1, o1⟩ := hrd wr hTr.bel k hkc
       obtain ⟨vc, z1, o2⟩ := rdP o1
       have hA18 : A.length = 18 := o1.1.symm
       have hcall := patternFault_any ts (ws.take k) ((ws.take k).map Pt.va) ws[k] 0 (by decide) (.slice tp nt tc) (.slice q1 k j1) (.slice pv nv cv) vc wr.drew hkn (HWF.out.1 _ (List.getElem_mem hkc)) (HRT.out.later hTr.bel.drew) (rd_take (HR1.out.later hTr.bel.drew) k (by omega)) ((rd_of_holds hrow.holds).later (Below.drew (Below.refl _ _))) (o2.later (Below.drew (Below.refl _ _)))
       rw [List.drop_eq_getElem_cons hkc, wfs] at hev
       have htk : ws.take (k + 1) = ws.take k ++ [ws[k]] := List.take_succ_eq_append_getElem hkc
       obtain ⟨x, hx⟩ : ∃ x, ws[k] = x := ⟨_, rfl⟩
       rw [hx] at hcall hev htk z1
       obtain ⟨pva, hpva⟩ : ∃ y, x.va = y := ⟨_, rfl⟩
       obtain ⟨e9, he9⟩ : ∃ e9, pck ts (ws.take k) ((ws.take k).map Pt.va) x 0 = e9 := ⟨_, rfl⟩
       rw [he9] at hcall hev
       have HCM : Hid (Calls Tryz.prog 73 #[.slice tp nt tc, (.slice (some ⟨g, off, none⟩) k j1), .slice pv nv cv, .agg A.toArray, .int .i64 0] wr.drew fun e w' => e = .returned (.int .i64 e9) ∧ Below wr.drew.heap.size wr.drew w') := by rw [z1, ← hp]; exact hcall
       have ZA : Hid ((Tryz.prog.info? 65).map (·.size) = some A.length) := by show _ = _; rw [hA18]; kernel_rfl
       have X1_ := hid r1
       have HEW := hid hev
       have HTK := hid htk
       have HKN := hid hkn
       have HPV := hid hpva
       have HE9 := hid he9
       have HLA : Hid ((((ws.take k).map Pt.va).map encS).length ≤ 800) := by show _ ≤ 800; simp; have := HSZ.out; have := HN1.out; have := HN2.out; omega
       have HN0 : Hid (∀ W : World, W.rangeAt g (off + k * 18) A → W.cell? ⟨g, off + k * 18, none⟩ = some (.string pva)) := fun W h => by
         rw [z1] at h
         rw [← hpva]
         simpa using h 0 _ rfl
       have i1 : (0 : Int) ≤ (k : Int) := by omega
       have i2 : (k : Int) < (l1 : Int) := by omega
       have i3 : (k : Int) ≤ (l1 : Int) := by omega
       have i4 : (k : Int) ≤ (j1 : Int) := by have := HC1.out; omega
       clear hcall hev hrow hkn htk he9 hx hpva z1 o1 o2 r1 hrd hTr hp hA18
       go_wp2_with fail
       refine start_n (S := (fun w' => w'.cell? ⟨w.heap.size, 1, none⟩ = some (.slice (some ⟨g, off, none⟩) l1 j1) ∧ w'.rangeAt g (off + k * 18) A)) 13 #[false, false, false, false, false, false, false, false, false, false, false, false, false] rfl rfl (by kernel_rfl) (by { exact ⟨by { have h := HT.out.drew.c 1; rw [HQ.out] at h; exact h }, X1_.out⟩ }) (fun hHeld => ?_)
       refine tkq (i := 0) (v := ?v35) rfl ?hy35 ?rest35; (case hy35 => intro w0 hSw; (try dsimp only at hSw); go_simp <;> (try (with_reducible rfl))); (try simp only [puts])
       refine tkq (i := 1) (v := ?v36) rfl ?hy36 ?rest36; (case hy36 => intro w0 hSw; (try dsimp only at hSw); go_simp <;> (try (with_reducible rfl))); (try simp only [puts])
       refine tkq (i := 2) (v := ?v37) rfl ?hy37 ?rest37; (case hy37 => intro w0 hSw; (try dsimp only at hSw); go_simp <;> (try (with_reducible rfl))); (try simp only [puts])
       refine tkq (i := 3) (v := ?v38) rfl ?hy38 ?rest38; (case hy38 => intro w0 hSw; (try dsimp only at hSw); go_simp <;> (try (with_reducible rfl))); (try simp only [puts])
       refine tkq (i := 4) (v := ?v39) rfl ?hy39 ?rest39; (case hy39 => intro w0 hSw; (try dsimp only at hSw); go_simp <;> (try (with_reducible rfl))); (try simp only [puts])
       refine tkq (i := 5) (v := ?v40) rfl ?hy40 ?rest40; (case hy40 => intro w0 hSw; (try dsimp only at hSw); go_simp <;> (try (with_reducible rfl))); (try simp only [puts])
       refine tkq (i := 6) (v := ?v41) rfl ?hy41 ?rest41; (case hy41 => intro w0 hSw; (try dsimp only at hSw); go_simp <;> (try (with_reducible rfl))); (try simp only [puts])
       refine tkq (i := 7) (v := ?v42) rfl ?hy42 ?rest42; (case hy42 => intro w0 hSw; (try dsimp only at hSw); go_simp <;> (try (with_reducible rfl))); (try simp only [puts])
       refine tkq (i := 8) (v := ?v43) rfl ?hy43 ?rest43; (case hy43 => intro w0 hSw; (try dsimp only at hSw); go_simp <;> (try (with_reducible rfl))); (try simp only [puts])
       refine tkq (i := 9) (v := ?v44) rfl ?hy44 ?rest44; (case hy44 => intro w0 hSw; (try dsimp only at hSw); go_simp <;> (try (with_reducible rfl))); (try simp only [puts])
       refine tlq (i := 10) rfl (yieldsIf_load_mid (by rfl) 65 _ rfl g (off + k * 18) (by rfl) A _ (fun _ h => h.2) Tryz.underlying65 rfl ZA.out) ?_
       (try simp only [puts])
       refine wpAnyH_ready (rs := [11]) (by kernel_rfl) (by simp) ?_
       refine cons_mk rfl (fun K hK => ?_) AllReadyH.nil
       refine step_call5 73 ent_patternFault (by rfl) _ _ _ _ _ _ (by rfl) (.slice tp nt tc) (.slice (some ⟨g, off, none⟩) k j1) (.slice pv nv cv) (.agg A.toArray) (.int .i64 0) (by rfl) (by rfl) (by rfl) (by rfl) (by rfl) _ HCM.out ?_
       rintro e w9 ⟨rfl, hb9⟩
       refine ⟨_, rfl, ?_⟩
       have HT9 : Hid (BlkT w w9 [.string rn, (.slice q1 l1 j1), (.slice q2 l2 j2), (.slice q3 l3 j3), (.slice q4 l4 j4), .string ety, (.slice q5 l5 j5)] 49) := HT.out.drew.next hb9
       have X9 : Hid (w9.rangeAt g (off + k * 18) A) := range_bel X1_.out hb9
       have HW9 : Hid (Row w9 (fun i => w.heap.size < i) 9 1 (.slice pv nv cv) (((ws.take k).map Pt.va).map encS)) := Row.later (Row.later HRW.out (Below.drew (Below.refl _ _))) hb9
       clear hb9
       refine hK.out _ _ (by { exact ⟨by { have h := HT9.out.c 1; rw [HQ.out] at h; exact h }, X9.out⟩ }) (fun hHeld => ?_)
       clear hK K
       (try simp only [puts])
       refine tkq (i := 12) (v := ?v45) rfl ?hy45 ?rest45; (case hy45 => intro w0 hSw; (try dsimp only at hSw); go_simp <;> (try (with_reducible rfl))); (try simp only [puts])
       refine wpAnyH_done (by kernel_rfl) ?_ _
       clear hHeld a1
       have y1 : w9.cell? ⟨w.heap.size, 1, none⟩ = some (.slice (some ⟨g, off, none⟩) l1 j1) := by have h := HT9.out.c 1; rw [HQ.out] at h; exact h
       have y2 := HN0.out _ X9.out
       go_wp2_with (at_builtin; refine wp_appS (by rfl) _ _ 135 (by rfl) 9 i0 (.string ByteArray.empty) 1 16 Tryz.underlying135 HI.out.1 HI.out.2.1 HI.out.2.2.1 HI.out.2.2.2 rfl (by omega) (fun i => w.heap.size < i) (.slice pv nv cv) (((ws.take k).map Pt.va).map encS) (by rfl) (Row.alloc HW9.out _) (by { have h1 := blk_lt HT9.out.b1; simp; omega }) (encS pva) [.string pva] ⟨w9.heap.size, 0, none⟩ (by rfl) (by rfl) (World.news_of_block (heap_alloc_new _ _)) (by rfl) (.cons (.lit _) (.nil _ _)) HLA.out (by omega) ?_; intro v5 w10 hrw hgb hown; have HT10 : Hid (BlkT w w10 [.string rn, (.slice q1 l1 j1), (.slice q2 l2 j2), (.slice q3 l3 j3), (.slice q4 l4 j4), .string ety, (.slice q5 l5 j5)] 49) := (HT9.out.alloc _).grown hgb hown; have HW10 : Hid (Row w10 (fun i => w.heap.size < i) 9 1 v5 (((ws.take k).map Pt.va).map encS ++ [encS pva])) := hrw; obtain ⟨pv5, cv5, e5⟩ := Row.shape hrw; obtain ⟨nv5, hnv5⟩ : ∃ n, (((ws.take k).map Pt.va).map encS ++ [encS pva]).length = n := ⟨_, rfl⟩; rw [hnv5] at e5; subst e5; clear hrw hgb hown hnv5)
       go_roundg (l1 + 1 - (k + 1))
       case rel =>
         refine ⟨k + 1, e9, pv5, nv5, cv5, by omega, rfl, by go_num, rfl, rfl, HT10.out, ?_⟩
         by_cases hz : e9 = 0
         . have h := HEW.out
           rw [if_neg (fun c => c hz)] at h
           have h9 := HW10.out
           rw [← HPV.out] at h9
           refine .inl ⟨hz, ?_, ?_, ?_⟩
           . rw [HTK.out]; exact known_snoc HKN.out (pck_known (HE9.out.trans hz))
           . rw [HTK.out]; exact h
           . rw [HTK.out]; simpa using h9
         . have h := HEW.out
           rw [if_pos hz] at h
           exact .inr ⟨hz, h⟩
       case measure => omega
     . obtain rfl : k = l1 := by omega
       have hw : ws.take k = ws := List.take_of_length_le (by have := HN1.out; omega)
       have hd : ws.drop k = [] := List.drop_of_length_le (by have := HN1.out; omega)
       rw [hw] at hrow
       rw [hd, wfs] at hev
       rw [hw] at hkn
       have HKN := hid hkn
       have HEV := hid hev
       have HRW2 := hid hrow
       clear hev hkn hrow hw hd hTr
       go_wp2_with fail
       go_meet
       case rel => exact ⟨0, pv, nv, cv, rfl, rfl, HT.out, .inl ⟨rfl, HKN.out, HEV.out, HRW2.out⟩⟩
   . have d1 : (e1 == 0) = false := by simpa using he
     have HE := hid he
     have HA := hid hA
     clear he hA hTr
     by_cases hlt : k < l1
     . have i2 : (k : Int) < (l1 : Int) := by omega
       go_wp2_with fail
       go_meet
       case rel => exact ⟨e1, pv, nv, cv, rfl, rfl, HT.out, .inr ⟨HE.out, HA.out⟩⟩
     . obtain rfl : k = l1 := by omega
       go_wp2_with fail
       go_meet
       case rel => exact ⟨e1, pv, nv, cv, rfl, rfl, HT.out, .inr ⟨HE.out, HA.out⟩⟩
 case rest =>
  obtain ⟨e1, pv, nv, cv, rfl, rfl, hT9, hcc⟩ := hcut
  have HT := hid hT9
  have HCC := hid hcc
  clear hT9 hcc
  go_upto_block 2 with fail
  go_cut [5, 6, 8] from 74 to 103 (fun e v _ wr => ∃ (e1 : Int) (pv : Option Addr) (nv cv : Nat), e = .int .i64 e1 ∧ v = .slice pv nv cv ∧ BlkT w wr [.string rn, (.slice q1 l1 j1), (.slice q2 l2 j2), (.slice q3 l3 j3), (.slice q4 l4 j4), .string ety, (.slice q5 l5 j5)] 49 ∧ ((e1 = 0 ∧ Known ts ws ∧ X2 = R ∧ Row wr (fun i => w.heap.size < i) 9 1 v ((ws.map Pt.va ++ ns.map Pt.va).map encS)) ∨ (e1 ≠ 0 ∧ e1 = R)))
  case first =>
   go_wp2_with fail
   go_loopg [5, 6, 8] (l2 + 1) (fun gg e v i wr => ∃ (k : Nat) (e1 : Int) (pv : Option Addr) (nv cv : Nat), k ≤ l2 ∧ gg = l2 + 1 - k ∧ i = .int .i64 (k : Nat) ∧ e = .int .i64 e1 ∧ v = .slice pv nv cv ∧ BlkT w wr [.string rn, (.slice q1 l1 j1), (.slice q2 l2 j2), (.slice q3 l3 j3), (.slice q4 l4 j4), .string ety, (.slice q5 l5 j5)] 49 ∧ ((e1 = 0 ∧ Known ts (ws) ∧ nfs X2 ts ws (ws.map Pt.va ++ (ns.take k).map Pt.va) (ns.drop k) = R ∧ Row wr (fun i => w.heap.size < i) 9 1 v ((ws.map Pt.va ++ (ns.take k).map Pt.va).map encS)) ∨ (e1 ≠ 0 ∧ e1 = R)))
   case atStart =>
     refine ⟨0, e1, pv, nv, cv, by omega, by omega, rfl, rfl, rfl, HT.out, ?_⟩
     rcases HCC.out with ⟨h1, h2, h3, h4⟩ | h
     . exact .inl ⟨h1, h2, by simpa using HX1.out.trans h3, by simpa using h4⟩
     . exact .inr h
   case round =>
     clear HCC
     obtain ⟨k, e1, pv, nv, cv, hk, rfl, rfl, rfl, rfl, hTr, hc⟩ := hrel
     clear HT
     have HT : Hid (BlkT w wr [.string rn, (.slice q1 l1 j1), (.slice q2 l2 j2), (.slice q3 l3 j3), (.slice q4 l4 j4), .string ety, (.slice q5 l5 j5)] 49) := hTr
     have a1 : wr.cell? ⟨w.heap.size, 2, none⟩ = some (.slice q2 l2 j2) := hTr.c 2
     rcases hc with ⟨rfl, hkn, hev, hrow⟩ | ⟨he, hA⟩
     . have HRW := hid hrow
       by_cases hlt : k < l2
       . have hkc : k < ns.length := by have := HN2.out; omega
         obtain ⟨g, off, hp, hrd⟩ := HA2.out (by omega)
         have HQ := hid hp
         rw [hp] at a1
         obtain ⟨A, r1, o1⟩ := hrd wr hTr.bel k hkc
         obtain ⟨vc, z1, o2⟩ := rdP o1
         have hA18 : A.length = 18 := o1.1.symm
         have hcall := patternFault_any ts ws (ws.map Pt.va ++ (ns.take k).map Pt.va) ns[k] 1 (by decide) (.slice tp nt tc) (.slice q1 l1 j1) (.slice pv nv cv) vc wr.drew hkn (HWF.out.2.1 _ (List.getElem_mem hkc)) (HRT.out.later hTr.bel.drew) (HR1.out.later hTr.bel.drew) ((rd_of_holds hrow.holds).later (Below.drew (Below.refl _ _))) (o2.later (Below.drew (Below.refl _ _)))
         rw [List.drop_eq_getElem_cons hkc, nfs] at hev
         have htk : ns.take (k + 1) = ns.take k ++ [ns[k]] := List.take_succ_eq_append_getElem hkc
         obtain ⟨x, hx⟩ : ∃ x, ns[k] = x := ⟨_, rfl⟩
         rw [hx] at hcall hev htk z1
         obtain ⟨pva, hpva⟩ : ∃ y, x.va = y := ⟨_, rfl⟩
         obtain ⟨e9, he9⟩ : ∃ e9, pck ts ws (ws.map Pt.va ++ (ns.take k).map Pt.va) x 1 = e9 := ⟨_, rfl⟩
         rw [he9] at hcall hev
         have HCM : Hid (Calls Tryz.prog 73 #[.slice tp nt tc, (.slice q1 l1 j1), .slice pv nv cv, .agg A.toArray, .int .i64 1] wr.drew fun e w' => e = .returned (.int .i64 e9) ∧ Below wr.drew.heap.size wr.drew w') := by rw [z1]; exact hcall
         have ZA : Hid ((Tryz.prog.info? 65).map (·.size) = some A.length) := by show _ = _; rw [hA18]; kernel_rfl
         have X1_ := hid r1
         have HEW := hid hev
         have HTK := hid htk
         have HKN := hid hkn
         have HPV := hid hpva
         have HE9 := hid he9
         have HLA : Hid (((ws.map Pt.va ++ (ns.take k).map Pt.va).map encS).length ≤ 800) := by show _ ≤ 800; simp; have := HSZ.out; have := HN1.out; have := HN2.out; omega
         have HN0 : Hid (∀ W : World, W.rangeAt g (off + k * 18) A → W.cell? ⟨g, off + k * 18, none⟩ = some (.string pva)) := fun W h => by
           rw [z1] at h
           rw [← hpva]
           simpa using h 0 _ rfl
         have i1 : (0 : Int) ≤ (k : Int) := by omega
         have i2 : (k : Int) < (l2 : Int) := by omega
         have a0 : wr.cell? ⟨w.heap.size, 1, none⟩ = some (.slice q1 l1 j1) := hTr.c 1
         clear hcall hev hrow hkn htk he9 hx hpva z1 o1 o2 r1 hrd hTr hp hA18
         go_wp2_with fail
         refine start_n (S := (fun w' => w'.cell? ⟨w.heap.size, 1, none⟩ = some (.slice q1 l1 j1) ∧ w'.cell? ⟨w.heap.size, 2, none⟩ = some (.slice (some ⟨g, off, none⟩) l2 j2) ∧ w'.rangeAt g (off + k * 18) A)) 11 #[false, false, false, false, false, false, false, false, false, false, false] rfl rfl (by kernel_rfl) (by { exact ⟨HT.out.drew.c 1, by { have h := HT.out.drew.c 2; rw [HQ.out] at h; exact h }, X1_.out⟩ }) (fun hHeld => ?_)
         refine tkq (i := 0) (v := ?v46) rfl ?hy46 ?rest46; (case hy46 => intro w0 hSw; (try dsimp only at hSw); go_simp <;> (try (with_reducible rfl))); (try simp only [puts])
         refine tkq (i := 1) (v := ?v47) rfl ?hy47 ?rest47; (case hy47 => intro w0 hSw; (try dsimp only at hSw); go_simp <;> (try (with_reducible rfl))); (try simp only [puts])
         refine tkq (i := 2) (v := ?v48) rfl ?hy48 ?rest48; (case hy48 => intro w0 hSw; (try dsimp only at hSw); go_simp <;> (try (with_reducible rfl))); (try simp only [puts])
         refine tkq (i := 3) (v := ?v49) rfl ?hy49 ?rest49; (case hy49 => intro w0 hSw; (try dsimp only at hSw); go_simp <;> (try (with_reducible rfl))); (try simp only [puts])
         refine tkq (i := 4) (v := ?v50) rfl ?hy50 ?rest50; (case hy50 => intro w0 hSw; (try dsimp only at hSw); go_simp <;> (try (with_reducible rfl))); (try simp only [puts])
         refine tkq (i := 5) (v := ?v51) rfl ?hy51 ?rest51; (case hy51 => intro w0 hSw; (try dsimp only at hSw); go_simp <;> (try (with_reducible rfl))); (try simp only [puts])
         refine tkq (i := 6) (v := ?v52) rfl ?hy52 ?rest52; (case hy52 => intro w0 hSw; (try dsimp only at hSw); go_simp <;> (try (with_reducible rfl))); (try simp only [puts])
         refine tkq (i := 7) (v := ?v53) rfl ?hy53 ?rest53; (case hy53 => intro w0 hSw; (try dsimp only at hSw); go_simp <;> (try (with_reducible rfl))); (try simp only [puts])
         refine tlq (i := 8) rfl (yieldsIf_load_mid (by rfl) 65 _ rfl g (off + k * 18) (by rfl) A _ (fun _ h => h.2.2) Tryz.underlying65 rfl ZA.out) ?_
         (try simp only [puts])
         refine wpAnyH_ready (rs := [9]) (by kernel_rfl) (by simp) ?_
         refine cons_mk rfl (fun K hK => ?_) AllReadyH.nil
         refine step_call5 73 ent_patternFault (by rfl) _ _ _ _ _ _ (by rfl) (.slice tp nt tc) (.slice q1 l1 j1) (.slice pv nv cv) (.agg A.toArray) (.int .i64 1) (by rfl) (by rfl) (by rfl) (by rfl) (by rfl) _ HCM.out ?_
         rintro e w9 ⟨rfl, hb9⟩
         refine ⟨_, rfl, ?_⟩
         have HT9 : Hid (BlkT w w9 [.string rn, (.slice q1 l1 j1), (.slice q2 l2 j2), (.slice q3 l3 j3), (.slice q4 l4 j4), .string ety, (.slice q5 l5 j5)] 49) := HT.out.drew.next hb9
         have X9 : Hid (w9.rangeAt g (off + k * 18) A) := range_bel X1_.out hb9
         have HW9 : Hid (Row w9 (fun i => w.heap.size < i) 9 1 (.slice pv nv cv) ((ws.map Pt.va ++ (ns.take k).map Pt.va).map encS)) := Row.later (Row.later HRW.out (Below.drew (Below.refl _ _))) hb9
         clear hb9
         refine hK.out _ _ (by { exact ⟨HT9.out.c 1, by { have h := HT9.out.c 2; rw [HQ.out] at h; exact h }, X9.out⟩ }) (fun hHeld => ?_)
         clear hK K
         (try simp only [puts])
         refine tkq (i := 10) (v := ?v54) rfl ?hy54 ?rest54; (case hy54 => intro w0 hSw; (try dsimp only at hSw); go_simp <;> (try (with_reducible rfl))); (try simp only [puts])
         refine wpAnyH_done (by kernel_rfl) ?_ _
         clear hHeld a1 a0
         have y1 : w9.cell? ⟨w.heap.size, 2, none⟩ = some (.slice (some ⟨g, off, none⟩) l2 j2) := by have h := HT9.out.c 2; rw [HQ.out] at h; exact h
         have y2 := HN0.out _ X9.out
         go_wp2_with (at_builtin; refine wp_appS (by rfl) _ _ 135 (by rfl) 9 i0 (.string ByteArray.empty) 1 16 Tryz.underlying135 HI.out.1 HI.out.2.1 HI.out.2.2.1 HI.out.2.2.2 rfl (by omega) (fun i => w.heap.size < i) (.slice pv nv cv) ((ws.map Pt.va ++ (ns.take k).map Pt.va).map encS) (by rfl) (Row.alloc HW9.out _) (by { have h1 := blk_lt HT9.out.b1; simp; omega }) (encS pva) [.string pva] ⟨w9.heap.size, 0, none⟩ (by rfl) (by rfl) (World.news_of_block (heap_alloc_new _ _)) (by rfl) (.cons (.lit _) (.nil _ _)) HLA.out (by omega) ?_; intro v5 w10 hrw hgb hown; have HT10 : Hid (BlkT w w10 [.string rn, (.slice q1 l1 j1), (.slice q2 l2 j2), (.slice q3 l3 j3), (.slice q4 l4 j4), .string ety, (.slice q5 l5 j5)] 49) := (HT9.out.alloc _).grown hgb hown; have HW10 : Hid (Row w10 (fun i => w.heap.size < i) 9 1 v5 ((ws.map Pt.va ++ (ns.take k).map Pt.va).map encS ++ [encS pva])) := hrw; obtain ⟨pv5, cv5, e5⟩ := Row.shape hrw; obtain ⟨nv5, hnv5⟩ : ∃ n, ((ws.map Pt.va ++ (ns.take k).map Pt.va).map encS ++ [encS pva]).length = n := ⟨_, rfl⟩; rw [hnv5] at e5; subst e5; clear hrw hgb hown hnv5)
         go_roundg (l2 + 1 - (k + 1))
         case rel =>
           refine ⟨k + 1, e9, pv5, nv5, cv5, by omega, rfl, by go_num, rfl, rfl, HT10.out, ?_⟩
           by_cases hz : e9 = 0
           . have h := HEW.out
             rw [if_neg (fun c => c hz)] at h
             have h9 := HW10.out
             rw [← HPV.out] at h9
             refine .inl ⟨hz, ?_, ?_, ?_⟩
             . exact HKN.out
             . rw [HTK.out]; simpa using h
             . rw [HTK.out]; simpa using h9
           . have h := HEW.out
             rw [if_pos hz] at h
             exact .inr ⟨hz, h⟩
         case measure => omega
       . obtain rfl : k = l2 := by omega
         have hw : ns.take k = ns := List.take_of_length_le (by have := HN2.out; omega)
         have hd : ns.drop k = [] := List.drop_of_length_le (by have := HN2.out; omega)
         rw [hw] at hrow
         rw [hd, nfs] at hev
         have HKN := hid hkn
         have HEV := hid hev
         have HRW2 := hid hrow
         clear hev hkn hrow hw hd hTr
         go_wp2_with fail
         go_meet
         case rel => exact ⟨0, pv, nv, cv, rfl, rfl, HT.out, .inl ⟨rfl, HKN.out, HEV.out, HRW2.out⟩⟩
     . have d1 : (e1 == 0) = false := by simpa using he
       have HE := hid he
       have HA := hid hA
       clear he hA hTr
       by_cases hlt : k < l2
       . have i2 : (k : Int) < (l2 : Int) := by omega
         go_wp2_with fail
         go_meet
         case rel => exact ⟨e1, pv, nv, cv, rfl, rfl, HT.out, .inr ⟨HE.out, HA.out⟩⟩
       . obtain rfl : k = l2 := by omega
         go_wp2_with fail
         go_meet
         case rel => exact ⟨e1, pv, nv, cv, rfl, rfl, HT.out, .inr ⟨HE.out, HA.out⟩⟩
  case rest =>
   obtain ⟨e1, pv, nv, cv, rfl, rfl, hT9, hcc⟩ := hcut
   have HT := hid hT9
   have HCC := hid hcc
   clear hT9 hcc
   go_upto_block 4 with fail
   go_cut [5, 6, 9, 10] from 104 to 169 (fun e _ _ _ wr => ∃ e1 : Int, e = .int .i64 e1 ∧ BlkT w wr [.string rn, (.slice q1 l1 j1), (.slice q2 l2 j2), (.slice q3 l3 j3), (.slice q4 l4 j4), .string ety, (.slice q5 l5 j5)] 49 ∧ ((e1 = 0 ∧ Known ts ws ∧ X3 = R) ∨ (e1 ≠ 0 ∧ e1 = R)))
   case first =>
     go_wp2_with fail
     go_loopg [5, 6, 9] (l3 + 1) (fun gg e v i wr => ∃ (k : Nat) (e1 : Int) (pv : Option Addr) (nv cv : Nat), k ≤ l3 ∧ gg = l3 + 1 - k ∧ i = .int .i64 (k : Nat) ∧ e = .int .i64 e1 ∧ v = .slice pv nv cv ∧ BlkT w wr [.string rn, (.slice q1 l1 j1), (.slice q2 l2 j2), (.slice q3 l3 j3), (.slice q4 l4 j4), .string ety, (.slice q5 l5 j5)] 49 ∧ ((e1 = 0 ∧ Known ts (ws) ∧ mfs X3 ts ws (ws.map Pt.va ++ ns.map Pt.va ++ (ms.take k).map (fun m => m.p.va)) (ms.drop k) = R ∧ Row wr (fun i => w.heap.size < i) 9 1 v ((ws.map Pt.va ++ ns.map Pt.va ++ (ms.take k).map (fun m => m.p.va)).map encS)) ∨ (e1 ≠ 0 ∧ e1 = R)))
     case atStart =>
       refine ⟨0, e1, pv, nv, cv, by omega, by omega, rfl, rfl, rfl, HT.out, ?_⟩
       rcases HCC.out with ⟨h1, h2, h3, h4⟩ | h
       . exact .inl ⟨h1, h2, by simpa using HX2.out.trans h3, by simpa using h4⟩
       . exact .inr h
     case round =>
       clear HCC
       obtain ⟨k, e1, pv, nv, cv, hk, rfl, rfl, rfl, rfl, hTr, hc⟩ := hrel
       clear HT
       have HT : Hid (BlkT w wr [.string rn, (.slice q1 l1 j1), (.slice q2 l2 j2), (.slice q3 l3 j3), (.slice q4 l4 j4), .string ety, (.slice q5 l5 j5)] 49) := hTr
       have a1 : wr.cell? ⟨w.heap.size, 3, none⟩ = some (.slice q3 l3 j3) := hTr.c 3
       rcases hc with ⟨rfl, hkn, hev, hrow⟩ | ⟨he, hA⟩
       . have HRW := hid hrow
         by_cases hlt : k < l3
         . have hkc : k < ms.length := by have := HN3.out; omega
           obtain ⟨g, off, hp, hrd⟩ := HA3.out (by omega)
           have HQ := hid hp
           rw [hp] at a1
           obtain ⟨A, r1, o1⟩ := hrd wr hTr.bel k hkc
           have hA20 : A.length = 20 := o1.1.symm
           obtain ⟨B, z1, o0⟩ := rdM o1
           obtain ⟨vc, z2, o2⟩ := rdP o0
           obtain ⟨vp, vn, vcap, hvc⟩ := rd_shape o2
           have hcall := fun W (hW0 : Below wr.heap.size wr W) (hr : Rd W (.row 9 1 ((ws.map Pt.va ++ ns.map Pt.va ++ (ms.take k).map (fun m => m.p.va)).map encS)) (.slice pv nv cv)) => patternFault_any ts ws (ws.map Pt.va ++ ns.map Pt.va ++ (ms.take k).map (fun m => m.p.va)) ms[k].p 2 (by decide) (.slice tp nt tc) (.slice q1 l1 j1) (.slice pv nv cv) vc W hkn (HWF.out.2.2 _ (List.getElem_mem hkc)) (HRT.out.later (below_trans hTr.bel hW0 hTr.bel.size)) (HR1.out.later (below_trans hTr.bel hW0 hTr.bel.size)) hr (o2.later hW0)
           rw [List.drop_eq_getElem_cons hkc, mfs] at hev
           have htk : ms.take (k + 1) = ms.take k ++ [ms[k]] := List.take_succ_eq_append_getElem hkc
           obtain ⟨x, hx⟩ : ∃ x, ms[k] = x := ⟨_, rfl⟩
           rw [hx] at hcall hev htk z1 z2
           obtain ⟨mc, hmc⟩ : ∃ y, x.c = y := ⟨_, rfl⟩
           obtain ⟨mf, hmf⟩ : ∃ y, x.f = y := ⟨_, rfl⟩
           obtain ⟨pva, hpva⟩ : ∃ y, x.p.va = y := ⟨_, rfl⟩
           obtain ⟨ptt, hptt⟩ : ∃ y, x.p.ty = y := ⟨_, rfl⟩
           obtain ⟨e9, he9⟩ : ∃ e9, pck ts ws (ws.map Pt.va ++ ns.map Pt.va ++ (ms.take k).map (fun m => m.p.va)) x.p 2 = e9 := ⟨_, rfl⟩
           rw [he9] at hcall
           rw [hmc, hmf] at z1
           have HAO : Hid (A.all (·.oneCell') = true) := by show _ = _; rw [z1, z2, hvc]; rfl
           have HB2 : Hid (B[1]? = some (.string ptt)) := by show _ = _; rw [z2, hptt]; rfl
           have HCM : Hid (∀ W, Below wr.heap.size wr W → Rd W (.row 9 1 ((ws.map Pt.va ++ ns.map Pt.va ++ (ms.take k).map (fun m => m.p.va)).map encS)) (.slice pv nv cv) → Calls Tryz.prog 73 #[.slice tp nt tc, .slice q1 l1 j1, .slice pv nv cv, .agg B.toArray, .int .i64 2] W fun e w' => e = .returned (.int .i64 e9) ∧ Below W.heap.size W w') := fun W hW hr => by rw [z2]; exact hcall W hW hr
           have ZA : Hid ((Tryz.prog.info? 68).map (·.size) = some A.length) := by show _ = _; rw [hA20]; kernel_rfl
           have ZB : Hid ((Tryz.prog.info? 65).map (·.size) = some B.length) := by show _ = _; rw [z2]; kernel_rfl
           have HAL := hid hA20
           have HAA2 := hid z1
           have X1_ := hid r1
           have HEW := hid hev
           have HTK := hid htk
           have HKN := hid hkn
           have HPV := hid hpva
           have HPT2 := hid hptt
           have HE9 := hid he9
           have HLA : Hid (((ws.map Pt.va ++ ns.map Pt.va ++ (ms.take k).map (fun m => m.p.va)).map encS).length ≤ 800) := by show _ ≤ 800; simp; have := HSZ.out; have := HN1.out; have := HN2.out; have := HN3.out; omega
           have HN0 : Hid (∀ W : World, W.rangeAt g (off + k * 20) A → W.cell? ⟨g, off + k * 20 + 2, none⟩ = some (.string pva)) := fun W h => by
             rw [z1, z2, hpva] at h
             simpa using h 2 _ rfl
           have i1 : (0 : Int) ≤ (k : Int) := by omega
           have i2 : (k : Int) < (l3 : Int) := by omega
           have HMC := hid hmc
           have HMF := hid hmf
           have hmk : mck ts ws (ws.map Pt.va ++ ns.map Pt.va ++ (ms.take k).map (fun m => m.p.va)) x = mck ts ws (ws.map Pt.va ++ ns.map Pt.va ++ (ms.take k).map (fun m => m.p.va)) x := rfl
           clear hcall hev hrow hkn htk he9 hpva hptt z1 z2 o0 o1 o2 r1 hrd hTr hp hA20 hmc hmf hvc hmk
           cases hem : emp mf with
           | true =>
             have q0 : mf.toList = [] := emp_t hem
             by_cases hr : 1 ≤ mc ∧ mc ≤ 120
             . have HM1 : Hid (e9 = 0 → mck ts ws (ws.map Pt.va ++ ns.map Pt.va ++ (ms.take k).map (fun m => m.p.va)) x = e9) := fun h => by rw [mck_ok (by rw [mbad, HMC.out, HMF.out, hem]; simp; omega) (HE9.out.trans h), HMF.out, if_pos hem, h]
               have HM3 : Hid (e9 ≠ 0 → mck ts ws (ws.map Pt.va ++ ns.map Pt.va ++ (ms.take k).map (fun m => m.p.va)) x = e9) := fun h => by rw [mck_pat (by rw [mbad, HMC.out, HMF.out, hem]; simp; omega) (by rw [HE9.out]; exact h), HE9.out]
               have HIN1 : Hid (∀ W, Calls Tryz.prog 17 #[.int .i64 mc, .int .i64 1, .int .i64 120] W fun e w' => e = .returned (.bool true) ∧ w' = W) := fun W => in_any mc _ _ true (say_true (by omega)) W
               have HIN2 : Hid (∀ W, Calls Tryz.prog 17 #[.int .i64 mc, .int .i64 0, .int .i64 1125899906842624] W fun e w' => e = .returned (.bool true) ∧ w' = W) := fun W => in_any mc _ _ true (say_true (by omega)) W
               clear hr hem
               go_wp2_with (first
                 | ((with_reducible refine gLq ?_); refine wpList_load_mid (by rfl) 68 _ (by rfl) g (off + k * 20) (by rfl) A _ X1_.out Tryz.underlying68 rfl ZA.out ?_)
                 | ((with_reducible refine gSq ?_); refine wp_st (by rfl) 68 _ _ (by rfl) wr.heap.size 0 _ 68 (.agg A.toArray) A (by rfl) (by rfl) (by rfl) (heap_alloc_new _ _) (by have := HAL.out; simp; omega) ZA.out HAO.out ?_; intro w1 hblk hfr; rw [ovr_all (by rw [HAL.out]; rfl)] at hblk; have HB1 := hid hblk; have hbl := new_store hfr; have HT1 : Hid _ := HT.out.next hbl; have HW1 : Hid (Row w1 (fun i => w.heap.size < i) 9 1 (.slice pv nv cv) ((ws.map Pt.va ++ ns.map Pt.va ++ (ms.take k).map (fun m => m.p.va)).map encS)) := Row.later HRW.out hbl; have X3_ : Hid (w1.rangeAt g (off + k * 20) A) := range_below X1_.out hbl; have HBW : Hid (Below wr.heap.size wr w1) := hbl; clear hblk hfr hbl; have c0 : w1.cell? ⟨wr.heap.size, 0, none⟩ = some (.int .i64 mc) := (by rw [cell_of_blk HB1.out, HAA2.out]; rfl); have c1 : w1.cell? ⟨wr.heap.size, 1, none⟩ = some (.string mf) := (by rw [cell_of_blk HB1.out, HAA2.out]; rfl); have a9 : w1.cell? ⟨w.heap.size, 1, none⟩ = some (.slice q1 l1 j1) := HT1.out.c 1; have XB : Hid (w1.rangeAt wr.heap.size 2 B) := range_tail HB1.out HAA2.out))
               refine (HIN1.out _).mono ?_
               rintro e _ ⟨rfl, rfl⟩
               go_wp2_with fail
               refine (HIN2.out _).mono ?_
               rintro e _ ⟨rfl, rfl⟩
               go_wp2_with ((with_reducible refine gLq ?_); refine wpList_load_mid (by rfl) 65 _ (by rfl) wr.heap.size 2 (by rfl) B _ XB.out Tryz.underlying65 rfl ZB.out ?_)
               refine (HCM.out _ HBW.out (Row.out HW1.out)).mono ?_
               rintro e w9 ⟨rfl, hb9⟩
               have HT9 : Hid _ := HT1.out.next hb9
               have X9 : Hid (w9.rangeAt g (off + k * 20) A) := range_below X3_.out hb9
               have HW9 : Hid (Row w9 (fun i => w.heap.size < i) 9 1 (.slice pv nv cv) ((ws.map Pt.va ++ ns.map Pt.va ++ (ms.take k).map (fun m => m.p.va)).map encS)) := Row.later HW1.out hb9
               have d0 : w9.cell? ⟨wr.heap.size, 0, none⟩ = some (.int .i64 mc) := (hb9.cell (p := ⟨wr.heap.size, 0, none⟩) (World.block_lt_of_cell? _ _ c0)).trans c0
               have d1 : w9.cell? ⟨wr.heap.size, 1, none⟩ = some (.string mf) := (hb9.cell (p := ⟨wr.heap.size, 1, none⟩) (World.block_lt_of_cell? _ _ c1)).trans c1
               have d3 : w9.cell? ⟨wr.heap.size, 3, none⟩ = some (.string ptt) := by have h3 := range_cell XB.out (j := 1) (v := .string ptt) HB2.out; exact (hb9.cell (p := ⟨wr.heap.size, 3, none⟩) (World.block_lt_of_cell? _ _ h3)).trans h3
               have HD := hid (And.intro d1 d3)
               clear hb9 c0 c1 a9 d3
               by_cases hz : e9 = 0
               . have z1 : (e9 == 0) = true := by simpa using hz
                 have HEND : Hid (∀ W V, Row W (fun i => w.heap.size < i) 9 1 V ((ws.map Pt.va ++ ns.map Pt.va ++ (ms.take k).map (fun m => m.p.va)).map encS ++ [encS x.p.va]) → ((e9 = 0 ∧ Known ts ws ∧ mfs X3 ts ws (ws.map Pt.va ++ ns.map Pt.va ++ (ms.take (k + 1)).map (fun m => m.p.va)) (ms.drop (k + 1)) = R ∧ Row W (fun i => w.heap.size < i) 9 1 V ((ws.map Pt.va ++ ns.map Pt.va ++ (ms.take (k + 1)).map (fun m => m.p.va)).map encS)) ∨ (e9 ≠ 0 ∧ e9 = R))) := fun W V h9 => end_many HTK.out HKN.out (by { have h := HEW.out; rw [HM1.out hz] at h; exact h }) h9
                 clear hz
                 have y1 : w9.cell? ⟨w.heap.size, 3, none⟩ = some (.slice (some ⟨g, off, none⟩) l3 j3) := by have h := HT9.out.c 3; rw [HQ.out] at h; exact h
                 have y2 := HN0.out _ X9.out
                 go_wp2_with (at_builtin; refine wp_appS (by rfl) _ _ 135 (by rfl) 9 i0 (.string ByteArray.empty) 1 16 Tryz.underlying135 HI.out.1 HI.out.2.1 HI.out.2.2.1 HI.out.2.2.2 rfl (by omega) (fun i => w.heap.size < i) (.slice pv nv cv) ((ws.map Pt.va ++ ns.map Pt.va ++ (ms.take k).map (fun m => m.p.va)).map encS) (by rfl) (Row.alloc HW9.out _) (by { have h1 := blk_lt HT9.out.b1; simp; omega }) (encS pva) [.string pva] ⟨w9.heap.size, 0, none⟩ (by rfl) (by rfl) (World.news_of_block (heap_alloc_new _ _)) (by rfl) (.cons (.lit _) (.nil _ _)) HLA.out (by omega) ?_; intro v5 w10 hrw hgb hown; have HT10 : Hid (BlkT w w10 [.string rn, (.slice q1 l1 j1), (.slice q2 l2 j2), (.slice q3 l3 j3), (.slice q4 l4 j4), .string ety, (.slice q5 l5 j5)] 49) := (HT9.out.alloc _).grown hgb hown; have HW10 : Hid (Row w10 (fun i => w.heap.size < i) 9 1 v5 ((ws.map Pt.va ++ ns.map Pt.va ++ (ms.take k).map (fun m => m.p.va)).map encS ++ [encS pva])) := hrw; obtain ⟨pv5, cv5, e5⟩ := Row.shape hrw; obtain ⟨nv5, hnv5⟩ : ∃ n, ((ws.map Pt.va ++ ns.map Pt.va ++ (ms.take k).map (fun m => m.p.va)).map encS ++ [encS pva]).length = n := ⟨_, rfl⟩; rw [hnv5] at e5; subst e5; clear hrw hgb hown hnv5)
                 go_roundg (l3 + 1 - (k + 1))
                 case rel =>
                  refine ⟨k + 1, e9, pv5, nv5, cv5, by omega, rfl, by go_num, rfl, rfl, HT10.out, ?_⟩
                  have h9 := HW10.out
                  rw [← HPV.out] at h9
                  exact HEND.out _ _ h9
                 case measure => omega
               . have z1 : (e9 == 0) = false := by simpa using hz
                 have HEND : Hid (∀ W V, Row W (fun i => w.heap.size < i) 9 1 V ((ws.map Pt.va ++ ns.map Pt.va ++ (ms.take k).map (fun m => m.p.va)).map encS ++ [encS x.p.va]) → ((e9 = 0 ∧ Known ts ws ∧ mfs X3 ts ws (ws.map Pt.va ++ ns.map Pt.va ++ (ms.take (k + 1)).map (fun m => m.p.va)) (ms.drop (k + 1)) = R ∧ Row W (fun i => w.heap.size < i) 9 1 V ((ws.map Pt.va ++ ns.map Pt.va ++ (ms.take (k + 1)).map (fun m => m.p.va)).map encS)) ∨ (e9 ≠ 0 ∧ e9 = R))) := fun W V h9 => end_many HTK.out HKN.out (by { have h := HEW.out; rw [HM3.out hz] at h; exact h }) h9
                 clear hz
                 have y1 : w9.cell? ⟨w.heap.size, 3, none⟩ = some (.slice (some ⟨g, off, none⟩) l3 j3) := by have h := HT9.out.c 3; rw [HQ.out] at h; exact h
                 have y2 := HN0.out _ X9.out
                 go_wp2_with (at_builtin; refine wp_appS (by rfl) _ _ 135 (by rfl) 9 i0 (.string ByteArray.empty) 1 16 Tryz.underlying135 HI.out.1 HI.out.2.1 HI.out.2.2.1 HI.out.2.2.2 rfl (by omega) (fun i => w.heap.size < i) (.slice pv nv cv) ((ws.map Pt.va ++ ns.map Pt.va ++ (ms.take k).map (fun m => m.p.va)).map encS) (by rfl) (Row.alloc HW9.out _) (by { have h1 := blk_lt HT9.out.b1; simp; omega }) (encS pva) [.string pva] ⟨w9.heap.size, 0, none⟩ (by rfl) (by rfl) (World.news_of_block (heap_alloc_new _ _)) (by rfl) (.cons (.lit _) (.nil _ _)) HLA.out (by omega) ?_; intro v5 w10 hrw hgb hown; have HT10 : Hid (BlkT w w10 [.string rn, (.slice q1 l1 j1), (.slice q2 l2 j2), (.slice q3 l3 j3), (.slice q4 l4 j4), .string ety, (.slice q5 l5 j5)] 49) := (HT9.out.alloc _).grown hgb hown; have HW10 : Hid (Row w10 (fun i => w.heap.size < i) 9 1 v5 ((ws.map Pt.va ++ ns.map Pt.va ++ (ms.take k).map (fun m => m.p.va)).map encS ++ [encS pva])) := hrw; obtain ⟨pv5, cv5, e5⟩ := Row.shape hrw; obtain ⟨nv5, hnv5⟩ : ∃ n, ((ws.map Pt.va ++ ns.map Pt.va ++ (ms.take k).map (fun m => m.p.va)).map encS ++ [encS pva]).length = n := ⟨_, rfl⟩; rw [hnv5] at e5; subst e5; clear hrw hgb hown hnv5)
                 go_roundg (l3 + 1 - (k + 1))
                 case rel =>
                  refine ⟨k + 1, e9, pv5, nv5, cv5, by omega, rfl, by go_num, rfl, rfl, HT10.out, ?_⟩
                  have h9 := HW10.out
                  rw [← HPV.out] at h9
                  exact HEND.out _ _ h9
                 case measure => omega
             . have HM2 : Hid (mck ts ws (ws.map Pt.va ++ ns.map Pt.va ++ (ms.take k).map (fun m => m.p.va)) x = 2) := mck_bad (by rw [mbad, HMC.out, HMF.out, hem]; simp; omega)
               have hm2 := HEW.out
               rw [HM2.out, if_pos (by decide)] at hm2
               have HRR := hid hm2
               clear hm2
               have HIN1 : Hid (∀ W, Calls Tryz.prog 17 #[.int .i64 mc, .int .i64 1, .int .i64 120] W fun e w' => e = .returned (.bool false) ∧ w' = W) := fun W => in_any mc _ _ false (say_false (by omega)) W
               clear hr hem
               go_wp2_with (first
                 | ((with_reducible refine gLq ?_); refine wpList_load_mid (by rfl) 68 _ (by rfl) g (off + k * 20) (by rfl) A _ X1_.out Tryz.underlying68 rfl ZA.out ?_)
                 | ((with_reducible refine gSq ?_); refine wp_st (by rfl) 68 _ _ (by rfl) wr.heap.size 0 _ 68 (.agg A.toArray) A (by rfl) (by rfl) (by rfl) (heap_alloc_new _ _) (by have := HAL.out; simp; omega) ZA.out HAO.out ?_; intro w1 hblk hfr; rw [ovr_all (by rw [HAL.out]; rfl)] at hblk; have HB1 := hid hblk; have hbl := new_store hfr; have HT1 : Hid _ := HT.out.next hbl; have HW1 : Hid (Row w1 (fun i => w.heap.size < i) 9 1 (.slice pv nv cv) ((ws.map Pt.va ++ ns.map Pt.va ++ (ms.take k).map (fun m => m.p.va)).map encS)) := Row.later HRW.out hbl; have X3_ : Hid (w1.rangeAt g (off + k * 20) A) := range_below X1_.out hbl; have HBW : Hid (Below wr.heap.size wr w1) := hbl; clear hblk hfr hbl; have c0 : w1.cell? ⟨wr.heap.size, 0, none⟩ = some (.int .i64 mc) := (by rw [cell_of_blk HB1.out, HAA2.out]; rfl); have c1 : w1.cell? ⟨wr.heap.size, 1, none⟩ = some (.string mf) := (by rw [cell_of_blk HB1.out, HAA2.out]; rfl); have a9 : w1.cell? ⟨w.heap.size, 1, none⟩ = some (.slice q1 l1 j1) := HT1.out.c 1; have XB : Hid (w1.rangeAt wr.heap.size 2 B) := range_tail HB1.out HAA2.out))
               refine (HIN1.out _).mono ?_
               rintro e _ ⟨rfl, rfl⟩
               go_wp2_with fail
               go_ret
               exact ⟨ret_int HRR.out, HT1.out.bel⟩
           | false =>
             obtain ⟨q0, q1'⟩ := emp_f hem
             by_cases hr : 0 ≤ mc ∧ mc ≤ 1125899906842624
             . have HM1 : Hid (∀ ix (hix : ix < ts.length), tyq ts x.p.ty = (ix : Int) → e9 = 0 → mck ts ws (ws.map Pt.va ++ ns.map Pt.va ++ (ms.take k).map (fun m => m.p.va)) x = sck ts[ix].f mf) := fun ix hix hty h => by rw [mck_ok (by rw [mbad, HMC.out, HMF.out, hem]; simp; omega) (HE9.out.trans h), HMF.out, if_neg (by rw [hem]; decide), hty]; simp [hix]
               have HM3 : Hid (e9 ≠ 0 → mck ts ws (ws.map Pt.va ++ ns.map Pt.va ++ (ms.take k).map (fun m => m.p.va)) x = e9) := fun h => by rw [mck_pat (by rw [mbad, HMC.out, HMF.out, hem]; simp; omega) (by rw [HE9.out]; exact h), HE9.out]
               have HIN2 : Hid (∀ W, Calls Tryz.prog 17 #[.int .i64 mc, .int .i64 0, .int .i64 1125899906842624] W fun e w' => e = .returned (.bool true) ∧ w' = W) := fun W => in_any mc _ _ true (say_true (by omega)) W
               clear hr hem
               go_wp2_with (first
                 | ((with_reducible refine gLq ?_); refine wpList_load_mid (by rfl) 68 _ (by rfl) g (off + k * 20) (by rfl) A _ X1_.out Tryz.underlying68 rfl ZA.out ?_)
                 | ((with_reducible refine gSq ?_); refine wp_st (by rfl) 68 _ _ (by rfl) wr.heap.size 0 _ 68 (.agg A.toArray) A (by rfl) (by rfl) (by rfl) (heap_alloc_new _ _) (by have := HAL.out; simp; omega) ZA.out HAO.out ?_; intro w1 hblk hfr; rw [ovr_all (by rw [HAL.out]; rfl)] at hblk; have HB1 := hid hblk; have hbl := new_store hfr; have HT1 : Hid _ := HT.out.next hbl; have HW1 : Hid (Row w1 (fun i => w.heap.size < i) 9 1 (.slice pv nv cv) ((ws.map Pt.va ++ ns.map Pt.va ++ (ms.take k).map (fun m => m.p.va)).map encS)) := Row.later HRW.out hbl; have X3_ : Hid (w1.rangeAt g (off + k * 20) A) := range_below X1_.out hbl; have HBW : Hid (Below wr.heap.size wr w1) := hbl; clear hblk hfr hbl; have c0 : w1.cell? ⟨wr.heap.size, 0, none⟩ = some (.int .i64 mc) := (by rw [cell_of_blk HB1.out, HAA2.out]; rfl); have c1 : w1.cell? ⟨wr.heap.size, 1, none⟩ = some (.string mf) := (by rw [cell_of_blk HB1.out, HAA2.out]; rfl); have a9 : w1.cell? ⟨w.heap.size, 1, none⟩ = some (.slice q1 l1 j1) := HT1.out.c 1; have XB : Hid (w1.rangeAt wr.heap.size 2 B) := range_tail HB1.out HAA2.out))
               refine (HIN2.out _).mono ?_
               rintro e _ ⟨rfl, rfl⟩
               go_wp2_with ((with_reducible refine gLq ?_); refine wpList_load_mid (by rfl) 65 _ (by rfl) wr.heap.size 2 (by rfl) B _ XB.out Tryz.underlying65 rfl ZB.out ?_)
               refine (HCM.out _ HBW.out (Row.out HW1.out)).mono ?_
               rintro e w9 ⟨rfl, hb9⟩
               have HT9 : Hid _ := HT1.out.next hb9
               have X9 : Hid (w9.rangeAt g (off + k * 20) A) := range_below X3_.out hb9
               have HW9 : Hid (Row w9 (fun i => w.heap.size < i) 9 1 (.slice pv nv cv) ((ws.map Pt.va ++ ns.map Pt.va ++ (ms.take k).map (fun m => m.p.va)).map encS)) := Row.later HW1.out hb9
               have d0 : w9.cell? ⟨wr.heap.size, 0, none⟩ = some (.int .i64 mc) := (hb9.cell (p := ⟨wr.heap.size, 0, none⟩) (World.block_lt_of_cell? _ _ c0)).trans c0
               have d1 : w9.cell? ⟨wr.heap.size, 1, none⟩ = some (.string mf) := (hb9.cell (p := ⟨wr.heap.size, 1, none⟩) (World.block_lt_of_cell? _ _ c1)).trans c1
               have d3 : w9.cell? ⟨wr.heap.size, 3, none⟩ = some (.string ptt) := by have h3 := range_cell XB.out (j := 1) (v := .string ptt) HB2.out; exact (hb9.cell (p := ⟨wr.heap.size, 3, none⟩) (World.block_lt_of_cell? _ _ h3)).trans h3
               have HD := hid (And.intro d1 d3)
               clear hb9 c0 c1 a9 d3
               by_cases hz : e9 = 0
               . have z1 : (e9 == 0) = true := by simpa using hz
                 obtain ⟨ix, hix, hty⟩ := pck_known (HE9.out.trans hz)
                 have hnt : ix < nt := by have := HNT.out; omega
                 obtain ⟨gt, oft, hpt, hrdt⟩ := HA0.out (by omega)
                 subst hpt
                 obtain ⟨T2, t1, t2⟩ := hrdt w9 HT9.out.bel ix hix
                 obtain ⟨fv2, zt, o3⟩ := rdY t2
                 have XT9 := hid t1
                 have ZT : Hid ((Tryz.prog.info? 72).map (·.size) = some T2.length) := by show _ = _; rw [zt]; kernel_rfl
                 have HSF : Hid (∀ W, Below w9.heap.size w9 W → Calls Tryz.prog 74 #[.agg T2.toArray, .string mf] W fun e w' => e = .returned (.int .i64 (sck ts[ix].f mf)) ∧ Below W.heap.size W w') := fun W hW => by
                  rw [zt]
                  exact sumFault_any _ _ fv2 mf W (o3.later hW)
                 have HTN : Hid (∀ W, Below w.heap.size w W → Calls Tryz.prog 35 #[.slice (some ⟨gt, oft, none⟩) nt tc, .string ptt] W fun e w' => e = .returned (.int .i64 (ix : Int)) ∧ Below W.heap.size W w') := fun W hW => by
                  rw [← hty, HPT2.out]
                  exact typeNamed_any ts (.slice (some ⟨gt, oft, none⟩) nt tc) ptt W (HRT.out.later hW)
                 have i5 : (0 : Int) ≤ (ix : Int) := by omega
                 have i6 : (ix : Int) < (nt : Int) := by omega
                 have HEND : Hid (∀ W V, Row W (fun i => w.heap.size < i) 9 1 V ((ws.map Pt.va ++ ns.map Pt.va ++ (ms.take k).map (fun m => m.p.va)).map encS ++ [encS x.p.va]) → (((sck ts[ix].f mf) = 0 ∧ Known ts ws ∧ mfs X3 ts ws (ws.map Pt.va ++ ns.map Pt.va ++ (ms.take (k + 1)).map (fun m => m.p.va)) (ms.drop (k + 1)) = R ∧ Row W (fun i => w.heap.size < i) 9 1 V ((ws.map Pt.va ++ ns.map Pt.va ++ (ms.take (k + 1)).map (fun m => m.p.va)).map encS)) ∨ ((sck ts[ix].f mf) ≠ 0 ∧ (sck ts[ix].f mf) = R))) := fun W V h9 => end_many HTK.out HKN.out (by { have h := HEW.out; rw [HM1.out ix hix hty hz] at h; exact h }) h9
                 obtain ⟨e8, he8⟩ : ∃ e8, sck ts[ix].f mf = e8 := ⟨_, rfl⟩
                 rw [he8] at HSF HEND
                 clear hz hrdt t2 zt o3 t1 he8 hty
                 go_wp2_with fail
                 refine start_n (S := (fun w' => w'.cell? ⟨wr.heap.size, 3, none⟩ = some (.string ptt) ∧ w'.cell? ⟨wr.heap.size, 1, none⟩ = some (.string mf) ∧ w'.rangeAt gt (oft + ix * 2) T2)) 12 #[false, false, false, false, false, false, false, false, false, false, false, false] rfl rfl (by kernel_rfl) (by { exact ⟨HD.out.2, HD.out.1, XT9.out⟩ }) (fun hHeld => ?_)
                 refine tkq (i := 0) (v := ?v21) rfl ?hy21 ?rest21; (case hy21 => intro w0 hSw; (try dsimp only at hSw); go_simp <;> (try (with_reducible rfl))); (try simp only [puts])
                 refine tkq (i := 1) (v := ?v22) rfl ?hy22 ?rest22; (case hy22 => intro w0 hSw; (try dsimp only at hSw); go_simp <;> (try (with_reducible rfl))); (try simp only [puts])
                 refine tkq (i := 2) (v := ?v23) rfl ?hy23 ?rest23; (case hy23 => intro w0 hSw; (try dsimp only at hSw); go_simp <;> (try (with_reducible rfl))); (try simp only [puts])
                 refine tkq (i := 3) (v := ?v24) rfl ?hy24 ?rest24; (case hy24 => intro w0 hSw; (try dsimp only at hSw); go_simp <;> (try (with_reducible rfl))); (try simp only [puts])
                 refine tkq (i := 4) (v := ?v25) rfl ?hy25 ?rest25; (case hy25 => intro w0 hSw; (try dsimp only at hSw); go_simp <;> (try (with_reducible rfl))); (try simp only [puts])
                 refine tkq (i := 8) (v := ?v26) rfl ?hy26 ?rest26; (case hy26 => intro w0 hSw; (try dsimp only at hSw); go_simp <;> (try (with_reducible rfl))); (try simp only [puts])
                 refine tkq (i := 9) (v := ?v27) rfl ?hy27 ?rest27; (case hy27 => intro w0 hSw; (try dsimp only at hSw); go_simp <;> (try (with_reducible rfl))); (try simp only [puts])
                 refine wpAnyH_ready (rs := [5]) (by kernel_rfl) (by simp) ?_
                 refine cons_mk rfl (fun K hK => ?_) AllReadyH.nil
                 refine step_call2 35 ent_tn (by rfl) _ _ _ (by rfl) (.slice (some ⟨gt, oft, none⟩) nt tc) (.string ptt) (by rfl) (by rfl) _ (HTN.out _ (Below.drew HT9.out.bel)) ?_
                 rintro e w11 ⟨rfl, hb11⟩
                 refine ⟨_, rfl, ?_⟩
                 have HB11 : Hid (Below w9.heap.size w9 w11) := below_trans (Below.drew (Below.refl _ _)) hb11 (Nat.le_refl _)
                 have HT11 : Hid (BlkT w w11 [.string rn, (.slice q1 l1 j1), (.slice q2 l2 j2), (.slice q3 l3 j3), (.slice q4 l4 j4), .string ety, (.slice q5 l5 j5)] 49) := HT9.out.drew.next hb11
                 have D1 : Hid (w11.cell? ⟨wr.heap.size, 3, none⟩ = some (.string ptt)) := cell_bel HD.out.2 hb11
                 have D2 : Hid (w11.cell? ⟨wr.heap.size, 1, none⟩ = some (.string mf)) := cell_bel HD.out.1 hb11
                 have XT11 : Hid (w11.rangeAt gt (oft + ix * 2) T2) := range_bel XT9.out hb11
                 have X11 : Hid (w11.rangeAt g (off + k * 20) A) := range_bel X9.out hb11
                 have HW11 : Hid (Row w11 (fun i => w.heap.size < i) 9 1 (.slice pv nv cv) ((ws.map Pt.va ++ ns.map Pt.va ++ (ms.take k).map (fun m => m.p.va)).map encS)) := Row.later (Row.later HW9.out (Below.drew (Below.refl _ _))) hb11
                 clear hb11
                 refine hK.out _ _ (by { exact ⟨D1.out, D2.out, XT11.out⟩ }) (fun hHeld => ?_)
                 clear hK K
                 (try simp only [puts])
                 refine tkq (i := 6) (v := ?v28) rfl ?hy28 ?rest28; (case hy28 => intro w0 hSw; (try dsimp only at hSw); go_simp <;> (try (with_reducible rfl))); (try simp only [puts])
                 refine tlq (i := 7) rfl (yieldsIf_load_mid (by rfl) 72 _ rfl gt (oft + ix * 2) (by rfl) T2 _ (fun _ h => h.2.2) Tryz.underlying72 rfl ZT.out) ?_
                 (try simp only [puts])
                 refine wpAnyH_ready (rs := [10]) (by kernel_rfl) (by simp) ?_
                 refine cons_mk rfl (fun K hK => ?_) AllReadyH.nil
                 refine step_call2 74 ent_sumFault (by rfl) _ _ _ (by rfl) (.agg T2.toArray) (.string mf) (by rfl) (by rfl) _ (HSF.out _ HB11.out) ?_
                 rintro e w12 ⟨rfl, hb12⟩
                 refine ⟨_, rfl, ?_⟩
                 have HT12 : Hid _ := HT11.out.next hb12
                 have D3 : Hid (w12.cell? ⟨wr.heap.size, 3, none⟩ = some (.string ptt)) := (hb12.cell (p := ⟨wr.heap.size, 3, none⟩) (World.block_lt_of_cell? _ _ D1.out)).trans D1.out
                 have D4 : Hid (w12.cell? ⟨wr.heap.size, 1, none⟩ = some (.string mf)) := (hb12.cell (p := ⟨wr.heap.size, 1, none⟩) (World.block_lt_of_cell? _ _ D2.out)).trans D2.out
                 have XT12 : Hid (w12.rangeAt gt (oft + ix * 2) T2) := range_below XT11.out hb12
                 have X12 : Hid (w12.rangeAt g (off + k * 20) A) := range_below X11.out hb12
                 have HW12 : Hid (Row w12 (fun i => w.heap.size < i) 9 1 (.slice pv nv cv) ((ws.map Pt.va ++ ns.map Pt.va ++ (ms.take k).map (fun m => m.p.va)).map encS)) := Row.later HW11.out hb12
                 clear hb12
                 refine hK.out _ _ (by { exact ⟨D3.out, D4.out, XT12.out⟩ }) (fun hHeld => ?_)
                 clear hK K
                 (try simp only [puts])
                 refine tkq (i := 11) (v := ?v29) rfl ?hy29 ?rest29; (case hy29 => intro w0 hSw; (try dsimp only at hSw); go_simp <;> (try (with_reducible rfl))); (try simp only [puts])
                 refine wpAnyH_done (by kernel_rfl) ?_ _
                 clear hHeld
                 clear X9 HT9 HW9 d0 d1
                 have HT9 := HT12
                 have HW9 := HW12
                 have X9 := X12
                 obtain ⟨w9', hw9'⟩ : ∃ q, q = w9 := ⟨_, rfl⟩
                 have y1 : w12.cell? ⟨w.heap.size, 3, none⟩ = some (.slice (some ⟨g, off, none⟩) l3 j3) := by have h := HT9.out.c 3; rw [HQ.out] at h; exact h
                 have y2 := HN0.out _ X9.out
                 go_wp2_with (at_builtin; refine wp_appS (by rfl) _ _ 135 (by rfl) 9 i0 (.string ByteArray.empty) 1 16 Tryz.underlying135 HI.out.1 HI.out.2.1 HI.out.2.2.1 HI.out.2.2.2 rfl (by omega) (fun i => w.heap.size < i) (.slice pv nv cv) ((ws.map Pt.va ++ ns.map Pt.va ++ (ms.take k).map (fun m => m.p.va)).map encS) (by rfl) (Row.alloc HW9.out _) (by { have h1 := blk_lt HT9.out.b1; simp; omega }) (encS pva) [.string pva] ⟨w12.heap.size, 0, none⟩ (by rfl) (by rfl) (World.news_of_block (heap_alloc_new _ _)) (by rfl) (.cons (.lit _) (.nil _ _)) HLA.out (by omega) ?_; intro v5 w10 hrw hgb hown; have HT10 : Hid (BlkT w w10 [.string rn, (.slice q1 l1 j1), (.slice q2 l2 j2), (.slice q3 l3 j3), (.slice q4 l4 j4), .string ety, (.slice q5 l5 j5)] 49) := (HT9.out.alloc _).grown hgb hown; have HW10 : Hid (Row w10 (fun i => w.heap.size < i) 9 1 v5 ((ws.map Pt.va ++ ns.map Pt.va ++ (ms.take k).map (fun m => m.p.va)).map encS ++ [encS pva])) := hrw; obtain ⟨pv5, cv5, e5⟩ := Row.shape hrw; obtain ⟨nv5, hnv5⟩ : ∃ n, ((ws.map Pt.va ++ ns.map Pt.va ++ (ms.take k).map (fun m => m.p.va)).map encS ++ [encS pva]).length = n := ⟨_, rfl⟩; rw [hnv5] at e5; subst e5; clear hrw hgb hown hnv5)
                 go_roundg (l3 + 1 - (k + 1))
                 case rel =>
                  refine ⟨k + 1, e8, pv5, nv5, cv5, by omega, rfl, by go_num, rfl, rfl, HT10.out, ?_⟩
                  have h9 := HW10.out
                  rw [← HPV.out] at h9
                  exact HEND.out _ _ h9
                 case measure => omega
               . have z1 : (e9 == 0) = false := by simpa using hz
                 have HEND : Hid (∀ W V, Row W (fun i => w.heap.size < i) 9 1 V ((ws.map Pt.va ++ ns.map Pt.va ++ (ms.take k).map (fun m => m.p.va)).map encS ++ [encS x.p.va]) → ((e9 = 0 ∧ Known ts ws ∧ mfs X3 ts ws (ws.map Pt.va ++ ns.map Pt.va ++ (ms.take (k + 1)).map (fun m => m.p.va)) (ms.drop (k + 1)) = R ∧ Row W (fun i => w.heap.size < i) 9 1 V ((ws.map Pt.va ++ ns.map Pt.va ++ (ms.take (k + 1)).map (fun m => m.p.va)).map encS)) ∨ (e9 ≠ 0 ∧ e9 = R))) := fun W V h9 => end_many HTK.out HKN.out (by { have h := HEW.out; rw [HM3.out hz] at h; exact h }) h9
                 clear hz
                 have y1 : w9.cell? ⟨w.heap.size, 3, none⟩ = some (.slice (some ⟨g, off, none⟩) l3 j3) := by have h := HT9.out.c 3; rw [HQ.out] at h; exact h
                 have y2 := HN0.out _ X9.out
                 go_wp2_with (at_builtin; refine wp_appS (by rfl) _ _ 135 (by rfl) 9 i0 (.string ByteArray.empty) 1 16 Tryz.underlying135 HI.out.1 HI.out.2.1 HI.out.2.2.1 HI.out.2.2.2 rfl (by omega) (fun i => w.heap.size < i) (.slice pv nv cv) ((ws.map Pt.va ++ ns.map Pt.va ++ (ms.take k).map (fun m => m.p.va)).map encS) (by rfl) (Row.alloc HW9.out _) (by { have h1 := blk_lt HT9.out.b1; simp; omega }) (encS pva) [.string pva] ⟨w9.heap.size, 0, none⟩ (by rfl) (by rfl) (World.news_of_block (heap_alloc_new _ _)) (by rfl) (.cons (.lit _) (.nil _ _)) HLA.out (by omega) ?_; intro v5 w10 hrw hgb hown; have HT10 : Hid (BlkT w w10 [.string rn, (.slice q1 l1 j1), (.slice q2 l2 j2), (.slice q3 l3 j3), (.slice q4 l4 j4), .string ety, (.slice q5 l5 j5)] 49) := (HT9.out.alloc _).grown hgb hown; have HW10 : Hid (Row w10 (fun i => w.heap.size < i) 9 1 v5 ((ws.map Pt.va ++ ns.map Pt.va ++ (ms.take k).map (fun m => m.p.va)).map encS ++ [encS pva])) := hrw; obtain ⟨pv5, cv5, e5⟩ := Row.shape hrw; obtain ⟨nv5, hnv5⟩ : ∃ n, ((ws.map Pt.va ++ ns.map Pt.va ++ (ms.take k).map (fun m => m.p.va)).map encS ++ [encS pva]).length = n := ⟨_, rfl⟩; rw [hnv5] at e5; subst e5; clear hrw hgb hown hnv5)
                 go_roundg (l3 + 1 - (k + 1))
                 case rel =>
                  refine ⟨k + 1, e9, pv5, nv5, cv5, by omega, rfl, by go_num, rfl, rfl, HT10.out, ?_⟩
                  have h9 := HW10.out
                  rw [← HPV.out] at h9
                  exact HEND.out _ _ h9
                 case measure => omega
             . have HM2 : Hid (mck ts ws (ws.map Pt.va ++ ns.map Pt.va ++ (ms.take k).map (fun m => m.p.va)) x = 2) := mck_bad (by rw [mbad, HMC.out, HMF.out, hem]; simp; omega)
               have hm2 := HEW.out
               rw [HM2.out, if_pos (by decide)] at hm2
               have HRR := hid hm2
               clear hm2
               have HIN2 : Hid (∀ W, Calls Tryz.prog 17 #[.int .i64 mc, .int .i64 0, .int .i64 1125899906842624] W fun e w' => e = .returned (.bool false) ∧ w' = W) := fun W => in_any mc _ _ false (say_false (by omega)) W
               clear hr hem
               go_wp2_with (first
                 | ((with_reducible refine gLq ?_); refine wpList_load_mid (by rfl) 68 _ (by rfl) g (off + k * 20) (by rfl) A _ X1_.out Tryz.underlying68 rfl ZA.out ?_)
                 | ((with_reducible refine gSq ?_); refine wp_st (by rfl) 68 _ _ (by rfl) wr.heap.size 0 _ 68 (.agg A.toArray) A (by rfl) (by rfl) (by rfl) (heap_alloc_new _ _) (by have := HAL.out; simp; omega) ZA.out HAO.out ?_; intro w1 hblk hfr; rw [ovr_all (by rw [HAL.out]; rfl)] at hblk; have HB1 := hid hblk; have hbl := new_store hfr; have HT1 : Hid _ := HT.out.next hbl; have HW1 : Hid (Row w1 (fun i => w.heap.size < i) 9 1 (.slice pv nv cv) ((ws.map Pt.va ++ ns.map Pt.va ++ (ms.take k).map (fun m => m.p.va)).map encS)) := Row.later HRW.out hbl; have X3_ : Hid (w1.rangeAt g (off + k * 20) A) := range_below X1_.out hbl; have HBW : Hid (Below wr.heap.size wr w1) := hbl; clear hblk hfr hbl; have c0 : w1.cell? ⟨wr.heap.size, 0, none⟩ = some (.int .i64 mc) := (by rw [cell_of_blk HB1.out, HAA2.out]; rfl); have c1 : w1.cell? ⟨wr.heap.size, 1, none⟩ = some (.string mf) := (by rw [cell_of_blk HB1.out, HAA2.out]; rfl); have a9 : w1.cell? ⟨w.heap.size, 1, none⟩ = some (.slice q1 l1 j1) := HT1.out.c 1; have XB : Hid (w1.rangeAt wr.heap.size 2 B) := range_tail HB1.out HAA2.out))
               refine (HIN2.out _).mono ?_
               rintro e _ ⟨rfl, rfl⟩
               go_wp2_with fail
               go_ret
               exact ⟨ret_int HRR.out, HT1.out.bel⟩
         . obtain rfl : k = l3 := by omega
           have hw : ms.take k = ms := List.take_of_length_le (by have := HN3.out; omega)
           have hd : ms.drop k = [] := List.drop_of_length_le (by have := HN3.out; omega)
           rw [hw] at hrow
           rw [hd, mfs] at hev
           have HKN := hid hkn
           have HEV := hid hev
           have HRW2 := hid hrow
           clear hev hkn hrow hw hd hTr
           go_wp2_with fail
           go_meet
           case rel => exact ⟨0, rfl, HT.out, .inl ⟨rfl, HKN.out, HEV.out⟩⟩
       . have d1 : (e1 == 0) = false := by simpa using he
         have HE := hid he
         have HA := hid hA
         clear he hA hTr
         by_cases hlt : k < l3
         . have i2 : (k : Int) < (l3 : Int) := by omega
           go_wp2_with fail
           go_meet
           case rel => exact ⟨e1, rfl, HT.out, .inr ⟨HE.out, HA.out⟩⟩
         . obtain rfl : k = l3 := by omega
           go_wp2_with fail
           go_meet
           case rel => exact ⟨e1, rfl, HT.out, .inr ⟨HE.out, HA.out⟩⟩
   case rest =>
     obtain ⟨e1, rfl, hT9, hcc⟩ := hcut
     have HT := hid hT9
     have HCC := hid hcc
     clear hT9 hcc
     go_upto_block 6 with fail
     go_cut [5, 11] from 170 to 187 (fun e _ wr => ∃ e1 : Int, e = .int .i64 e1 ∧ BlkT w wr [.string rn, (.slice q1 l1 j1), (.slice q2 l2 j2), (.slice q3 l3 j3), (.slice q4 l4 j4), .string ety, (.slice q5 l5 j5)] 49 ∧ ((e1 = 0 ∧ Known ts ws ∧ X4 = R) ∨ (e1 ≠ 0 ∧ e1 = R)))
     case first =>
       go_wp2_with fail
       go_loopg [5, 11] (l4 + 1) (fun gg e i wr => ∃ (k : Nat) (e1 : Int), k ≤ l4 ∧ gg = l4 + 1 - k ∧ i = .int .i64 (k : Nat) ∧ e = .int .i64 e1 ∧ BlkT w wr [.string rn, (.slice q1 l1 j1), (.slice q2 l2 j2), (.slice q3 l3 j3), (.slice q4 l4 j4), .string ety, (.slice q5 l5 j5)] 49 ∧ ((e1 = 0 ∧ Known ts ws ∧ lfs X4 ws ns (ks.drop k) = R) ∨ (e1 ≠ 0 ∧ e1 = R)))
       case atStart =>
         refine ⟨0, e1, by omega, by omega, rfl, rfl, HT.out, ?_⟩
         rcases HCC.out with ⟨h1, h2, h3⟩ | h
         . exact .inl ⟨h1, h2, by simpa using HX3.out.trans h3⟩
         . exact .inr h
       case round =>
         clear HCC
         obtain ⟨k, e1, hk, rfl, rfl, rfl, hTr, hc⟩ := hrel
         clear HT
         have HT : Hid (BlkT w wr [.string rn, (.slice q1 l1 j1), (.slice q2 l2 j2), (.slice q3 l3 j3), (.slice q4 l4 j4), .string ety, (.slice q5 l5 j5)] 49) := hTr
         have a1 : wr.cell? ⟨w.heap.size, 4, none⟩ = some (.slice q4 l4 j4) := hTr.c 4
         rcases hc with ⟨rfl, hkn, hev⟩ | ⟨he, hA⟩
         . by_cases hlt : k < l4
           . have hkc : k < ks.length := by have := HN4.out; omega
             obtain ⟨g, off, hp, hrd⟩ := HA4.out (by omega)
             subst hp
             obtain ⟨A, r1, o1⟩ := hrd wr hTr.bel k hkc
             have hA3 : A.length = 3 := o1.1.symm
             obtain ⟨ov, z1, o2⟩ := rdK o1
             have hcall := linkFault_any ws ns rn ety ks[k].l ks[k].r ks[k].o (.slice q1 l1 j1) (.slice q2 l2 j2) ov q3 (some ⟨g, off, none⟩) q5 l3 l4 l5 j3 j4 j5 wr.drew (HR1.out.later hTr.bel.drew) (HR2.out.later hTr.bel.drew) (o2.later (Below.drew (Below.refl _ _)))
             rw [List.drop_eq_getElem_cons hkc, lfs] at hev
             obtain ⟨e9, he9⟩ : ∃ e9, lck ws ns ks[k].l ks[k].r ks[k].o = e9 := ⟨_, rfl⟩
             rw [he9] at hcall hev
             obtain ⟨UL, hUL⟩ : ∃ UL : List Value, [.string rn, (.slice q1 l1 j1), (.slice q2 l2 j2), (.slice q3 l3 j3), (.slice (some ⟨g, off, none⟩) l4 j4), .string ety, (.slice q5 l5 j5)] = UL := ⟨_, rfl⟩
             have HUR : Hid (∀ W, BlkT w W [.string rn, (.slice q1 l1 j1), (.slice q2 l2 j2), (.slice q3 l3 j3), (.slice (some ⟨g, off, none⟩) l4 j4), .string ety, (.slice q5 l5 j5)] 49 → W.rangeAt w.heap.size 0 UL) := fun W h => by rw [← hUL]; exact range_blk h.b1
             have ZU : Hid ((Tryz.prog.info? 49).map (·.size) = some UL.length) := by show _ = _; rw [← hUL]; kernel_rfl
             have HCM : Hid (Calls Tryz.prog 75 #[.agg UL.toArray, .agg A.toArray] wr.drew fun e w' => e = .returned (.int .i64 e9) ∧ Below wr.drew.heap.size wr.drew w') := by rw [z1, ← hUL]; exact hcall
             have ZA : Hid ((Tryz.prog.info? 103).map (·.size) = some A.length) := by show _ = _; rw [hA3]; kernel_rfl
             have X1_ := hid r1
             have HEW := hid hev
             have HKN := hid hkn
             have i1 : (0 : Int) ≤ (k : Int) := by omega
             have i2 : (k : Int) < (l4 : Int) := by omega
             clear hcall hev hkn he9 z1 o1 o2 r1 hrd hTr hA3 hUL
             go_wp2_with fail
             refine start_n (S := (fun w' => w'.rangeAt w.heap.size 0 UL ∧ w'.cell? ⟨w.heap.size, 4, none⟩ = some (.slice (some ⟨g, off, none⟩) l4 j4) ∧ w'.rangeAt g (off + k * 3) A)) 8 #[false, false, false, false, false, false, false, false] rfl rfl (by kernel_rfl) (by { exact ⟨HUR.out _ HT.out.drew, HT.out.drew.c 4, X1_.out⟩ }) (fun hHeld => ?_)
             refine tkq (i := 1) (v := ?v30) rfl ?hy30 ?rest30; (case hy30 => intro w0 hSw; (try dsimp only at hSw); go_simp <;> (try (with_reducible rfl))); (try simp only [puts])
             refine tkq (i := 2) (v := ?v31) rfl ?hy31 ?rest31; (case hy31 => intro w0 hSw; (try dsimp only at hSw); go_simp <;> (try (with_reducible rfl))); (try simp only [puts])
             refine tkq (i := 3) (v := ?v32) rfl ?hy32 ?rest32; (case hy32 => intro w0 hSw; (try dsimp only at hSw); go_simp <;> (try (with_reducible rfl))); (try simp only [puts])
             refine tkq (i := 4) (v := ?v33) rfl ?hy33 ?rest33; (case hy33 => intro w0 hSw; (try dsimp only at hSw); go_simp <;> (try (with_reducible rfl))); (try simp only [puts])
             refine tlq (i := 0) rfl (yieldsIf_load_mid (by rfl) 49 _ rfl w.heap.size (0) (by rfl) UL _ (fun _ h => h.1) Tryz.underlying49 rfl ZU.out) ?_
             (try simp only [puts])
             refine tlq (i := 5) rfl (yieldsIf_load_mid (by rfl) 103 _ rfl g (off + k * 3) (by rfl) A _ (fun _ h => h.2.2) Tryz.underlying103 rfl ZA.out) ?_
             (try simp only [puts])
             refine wpAnyH_ready (rs := [6]) (by kernel_rfl) (by simp) ?_
             refine cons_mk rfl (fun K hK => ?_) AllReadyH.nil
             refine step_call2 75 ent_linkFault (by rfl) _ _ _ (by rfl) (.agg UL.toArray) (.agg A.toArray) (by rfl) (by rfl) _ HCM.out ?_
             rintro e w9 ⟨rfl, hb9⟩
             refine ⟨_, rfl, ?_⟩
             have HT9 : Hid (BlkT w w9 [.string rn, (.slice q1 l1 j1), (.slice q2 l2 j2), (.slice q3 l3 j3), (.slice (some ⟨g, off, none⟩) l4 j4), .string ety, (.slice q5 l5 j5)] 49) := HT.out.drew.next hb9
             have X9 : Hid (w9.rangeAt g (off + k * 3) A) := range_bel X1_.out hb9
             clear hb9
             refine hK.out _ _ (by { exact ⟨HUR.out _ HT9.out, HT9.out.c 4, X9.out⟩ }) (fun hHeld => ?_)
             clear hK K
             (try simp only [puts])
             refine tkq (i := 7) (v := ?v34) rfl ?hy34 ?rest34; (case hy34 => intro w0 hSw; (try dsimp only at hSw); go_simp <;> (try (with_reducible rfl))); (try simp only [puts])
             refine wpAnyH_done (by kernel_rfl) ?_ _
             clear hHeld a1
             go_wp2_with fail
             go_roundg (l4 + 1 - (k + 1))
             case rel =>
               refine ⟨k + 1, e9, by omega, rfl, by go_num, rfl, HT9.out, ?_⟩
               by_cases hz : e9 = 0
               . have h := HEW.out
                 rw [if_neg (fun c => c hz)] at h
                 exact .inl ⟨hz, HKN.out, h⟩
               . have h := HEW.out
                 rw [if_pos hz] at h
                 exact .inr ⟨hz, h⟩
             case measure => omega
           . obtain rfl : k = l4 := by omega
             have hd : ks.drop k = [] := List.drop_of_length_le (by have := HN4.out; omega)
             rw [hd, lfs] at hev
             have HKN := hid hkn
             have HEV := hid hev
             clear hev hkn hd hTr
             go_wp2_with fail
             go_meet
             case rel => exact ⟨0, rfl, HT.out, .inl ⟨rfl, HKN.out, HEV.out⟩⟩
         . have d1 : (e1 == 0) = false := by simpa using he
           have HE := hid he
           have HA := hid hA
           clear he hA hTr
           by_cases hlt : k < l4
           . have i2 : (k : Int) < (l4 : Int) := by omega
             go_wp2_with fail
             go_meet
             case rel => exact ⟨e1, rfl, HT.out, .inr ⟨HE.out, HA.out⟩⟩
           . obtain rfl : k = l4 := by omega
             go_wp2_with fail
             go_meet
             case rel => exact ⟨e1, rfl, HT.out, .inr ⟨HE.out, HA.out⟩⟩
     case rest =>
       obtain ⟨e1, rfl, hT9, hcc⟩ := hcut
       have HT := hid hT9
       have HCC := hid hcc
       clear hT9 hcc
       rcases HCC.out with ⟨h1, h2, h3⟩ | ⟨h1, h2⟩
       . subst h1
         have hcall := emitFault_any ts ws rn ety vs (.slice tp nt tc) (.slice q1 l1 j1) (.slice q5 l5 j5) q2 q3 q4 l2 l3 l4 j2 j3 j4 wc h2 (HRT.out.later HT.out.bel) (HR1.out.later HT.out.bel) (HR5.out.later HT.out.bel)
         rw [HX4.out] at hcall
         obtain ⟨UL, hUL⟩ : ∃ UL : List Value, [.string rn, (.slice q1 l1 j1), (.slice q2 l2 j2), (.slice q3 l3 j3), (.slice q4 l4 j4), .string ety, (.slice q5 l5 j5)] = UL := ⟨_, rfl⟩
         have ZU : Hid ((Tryz.prog.info? 49).map (·.size) = some UL.length) := by show _ = _; rw [← hUL]; kernel_rfl
         have HCM : Hid (Calls Tryz.prog 76 #[.slice tp nt tc, .agg UL.toArray] wc fun e w' => e = .returned (.int .i64 X4) ∧ Below wc.heap.size wc w') := by rw [← hUL]; exact hcall
         have HRR := hid h3
         have XR : Hid (wc.rangeAt w.heap.size 0 UL) := by rw [← hUL]; exact range_blk HT.out.b1
         clear hcall h2 h3 HCC hUL
         go_wp2_with ((with_reducible refine gLq ?_); refine wpList_load_mid (by rfl) 49 _ (by rfl) w.heap.size 0 (by rfl) UL _ XR.out Tryz.underlying49 rfl ZU.out ?_)
         refine (HCM.out).mono ?_
         rintro e w9 ⟨rfl, hb9⟩
         have HT9 : Hid _ := HT.out.next hb9
         clear hb9
         go_wp2_with fail
         go_ret
         exact ⟨ret_int HRR.out, HT9.out.bel⟩
       . have d1 : (e1 == 0) = false := by simpa using h1
         have HRR := hid h2
         clear h1 h2 HCC
         go_wp2_with fail
         go_ret
         exact ⟨ret_int HRR.out, HT.out.bel⟩
end Go.Proofs.YthndlfdbmljkhaaGreatDoor.Chk
