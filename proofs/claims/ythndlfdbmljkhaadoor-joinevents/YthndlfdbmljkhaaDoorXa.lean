/-
  Events that are only read; when conditions hold, in plain words. Events as they came. Events that came in, and a copy of them.
-/
import Derived.Test.YthndlfdbmljkhaaDoorDp
import Derived.Test.YthndlfdbmljkhaaDoorV4K
import Derived.Test.YthndlfdbmljkhaaDoorDt
import Derived.BigQuiet
import Derived.Test.YthndlfdbmljkhaaDoorO
namespace Go.Proofs.YthndlfdbmljkhaaDoor.Chk
open Go.ChangeShapes Go.WideShapes Go.ChangeAt Go.RowKit Go.Maps
set_option linter.unusedVariables false
set_option linter.unusedSimpArgs false
set_option maxRecDepth 20000
/-- An event: number, type, span, values. -/
structure Ev where
  n : Int
  t : Int
  st : Int
  en : Int
  v : List V4.Vl
def encV (v : V4.Vl) : List Dat := [.lit (.int .i64 v.k), .lit (.int .i64 v.n), .lit (.string v.s)]
def encX (x : Ev) : List Dat := [.lit (.int .i64 x.n), .lit (.int .i64 x.t), .lit (.int .i64 x.st), .lit (.int .i64 x.en), .row 78 3 (x.v.map encV)]
theorem lenV (c : V4.Vl) : (encV c).length = 3 := rfl
theorem lenX (c : Ev) : (encX c).length = 5 := rfl
theorem rdV {w : World} {o : V4.Vl} {vs : List Value} (h : RdL w (encV o) vs) : vs = [.int .i64 o.k, .int .i64 o.n, .string o.s] := by
  obtain ⟨v0, r0, rfl, h0, h⟩ := RdL.one h
  obtain ⟨v1, r1, rfl, h1, h⟩ := RdL.one h
  obtain ⟨v2, r2, rfl, h2, h⟩ := RdL.one h
  rw [rd_lit h0, rd_lit h1, rd_lit h2, RdL.none h]
theorem rdX {w : World} {x : Ev} {vs : List Value} (h : RdL w (encX x) vs) : ∃ u, vs = [.int .i64 x.n, .int .i64 x.t, .int .i64 x.st, .int .i64 x.en, u] ∧ Rd w (.row 78 3 (x.v.map encV)) u := by
  obtain ⟨v0, r0, rfl, h0, h⟩ := RdL.one h
  obtain ⟨v1, r1, rfl, h1, h⟩ := RdL.one h
  obtain ⟨v2, r2, rfl, h2, h⟩ := RdL.one h
  obtain ⟨v3, r3, rfl, h3, h⟩ := RdL.one h
  obtain ⟨v4, r4, rfl, h4, h⟩ := RdL.one h
  rw [rd_lit h0, rd_lit h1, rd_lit h2, rd_lit h3, RdL.none h]
  exact ⟨v4, rfl, h4⟩
def vT (t : Tp) : V4.Ty := ⟨t.n, t.f.map vF⟩
theorem valsAt {w : World} {v : Value} {l : List V4.Vl} (h : Rd w (.row 78 3 (l.map encV)) v) : V4.ValsAt w v l := by
  obtain ⟨p, cap, rfl, _, hat⟩ := rd_row lenV h
  obtain ⟨_, h1, h2⟩ := rd_caps h
  refine ⟨p, cap, rfl, h1, h2, fun h0 => ?_⟩
  obtain ⟨g, off, rfl, hr⟩ := hat h0
  refine ⟨g, off, rfl, fun j hj => ?_⟩
  obtain ⟨us, r1, r2⟩ := hr w (Below.refl _ _) j hj
  rw [rdV r2] at r1
  have c0 : w.cell? ⟨g, off + j * 3, none⟩ = some (.int .i64 l[j].k) := by simpa using r1 0 _ rfl
  have c1 : w.cell? ⟨g, off + j * 3 + 1, none⟩ = some (.int .i64 l[j].n) := r1 1 _ rfl
  have c2 : w.cell? ⟨g, off + j * 3 + 2, none⟩ = some (.string l[j].s) := r1 2 _ rfl
  exact ⟨World.block_lt_of_cell? _ _ c0, c0, c1, c2⟩
theorem tysAt {w : World} {v : Value} {ts : List Tp} (h : Rd w (.row 45 2 (ts.map encY)) v) : V4.TysAt w v (ts.map vT) := by
  obtain ⟨p, cap, rfl, _, hat⟩ := rd_row lenY h
  obtain ⟨_, h1, h2⟩ := rd_caps h
  have hl : (ts.map vT).length = ts.length := by simp
  refine ⟨p, cap, by rw [hl], by rw [hl]; exact h1, h2, fun h0 => ?_⟩
  obtain ⟨g, off, rfl, hr⟩ := hat (by rw [hl] at h0; exact h0)
  refine ⟨g, off, rfl, fun j hj => ?_⟩
  have hj' : j < ts.length := by rw [hl] at hj; exact hj
  obtain ⟨us, r1, r2⟩ := hr w (Below.refl _ _) j hj'
  obtain ⟨fv, z1, o2⟩ := rdY r2
  rw [z1] at r1
  have c0 : w.cell? ⟨g, off + j * 2, none⟩ = some (.string ts[j].n) := by simpa using r1 0 _ rfl
  have c1 : w.cell? ⟨g, off + j * 2 + 1, none⟩ = some fv := r1 1 _ rfl
  refine ⟨World.block_lt_of_cell? _ _ c0, ?_, fv, c1, ?_⟩
  · rw [List.getElem_map]; exact c0
  · rw [List.getElem_map]; exact fieldsAt o2
/-- What is wrong with an event. -/
def evk (ts : List Tp) (x : Ev) : Int := V4.echk (ts.map vT) x.n x.t x.st x.en x.v
abbrev evV (x : Ev) (u : Value) : Value := .agg #[.int .i64 x.n, .int .i64 x.t, .int .i64 x.st, .int .i64 x.en, u]
theorem checkEvent_p (ts : List Tp) (x : Ev) (tv u : Value) (w : World) (hT : Rd w (.row 45 2 (ts.map encY)) tv) (hu : Rd w (.row 78 3 (x.v.map encV)) u) :
    Calls Tryd.prog 7 #[tv, evV x u] w fun e w' => e = .returned (.int .i64 (evk ts x)) ∧ Below w.heap.size w w' :=
  V4.checkEvent_any tv (ts.map vT) x.n x.t x.st x.en u x.v w (tysAt hT) (valsAt hu)
theorem eventFault_p (ts : List Tp) (x : Ev) (tv u : Value) (w : World) (hT : Rd w (.row 45 2 (ts.map encY)) tv) (hu : Rd w (.row 78 3 (x.v.map encV)) u) :
    Calls Tryd.prog 10 #[tv, evV x u] w fun e w' => e = .returned (.int .i64 (evk ts x)) ∧ Below w.heap.size w w' :=
  V4.eventFault_any tv (ts.map vT) x.n x.t x.st x.en u x.v w (tysAt hT) (valsAt hu)
def dT : Tp := ⟨txt [], []⟩
def ev0 : Ev := ⟨0, 0, 0, 0, []⟩
def vl0 : V4.Vl := ⟨0, 0, txt []⟩
theorem getD_lt {α : Type} {l : List α} {i : Nat} (h : i < l.length) (d : α) : l.getD i d = l[i] := by simp [List.getD, List.getElem?_eq_getElem h]
/-- An event that may be: its type, and its values. -/
theorem evk_ok {ts : List Tp} {x : Ev} (h : evk ts x = 0) : ∃ i, ∃ hi : i < ts.length, x.t = (i : Int) ∧ x.v.length = ts[i].f.length ∧ ∀ k (hk : k < x.v.length) (hf : k < ts[i].f.length), V4.vchk x.v[k] = 0 ∧ x.v[k].k = ts[i].f[k].k := by
  unfold evk V4.echk at h
  split at h
  · omega
  · split at h
    · omega
    · rename_i c1 c2
      rw [List.length_map] at c2
      split at h
      · rename_i c; exact absurd h c
      · obtain ⟨i, hi⟩ : ∃ i : Nat, x.t = (i : Int) := ⟨x.t.toNat, by omega⟩
        have hil : i < ts.length := by omega
        refine ⟨i, hil, hi, ?_⟩
        rw [hi, Int.toNat_natCast, getD_lt (by rw [List.length_map]; exact hil), List.getElem_map] at h
        unfold V4.fit at h
        split at h
        · rename_i c; exact absurd h c
        · split at h
          · rename_i c; exact absurd h c
          · rename_i c3
            split at h
            · omega
            · rename_i c4
              have e1 : x.v.length = ts[i].f.length := by have := Classical.byContradiction c4; rw [this]; simp [vT]
              refine ⟨e1, fun k hk hf => ?_⟩
              have a1 := V4.fst_zero (Classical.byContradiction c3) k hk
              have a2 := V4.fst_zero h k hk
              unfold V4.vat at a1
              rw [List.getElem?_eq_getElem hk] at a1
              unfold V4.kat at a2
              have hg : (vT ts[i]).fs[k]? = some (vF ts[i].f[k]) := by simp [vT, List.getElem?_eq_getElem hf]
              rw [List.getElem?_eq_getElem hk, hg] at a2
              refine ⟨a1, ?_⟩
              simp only at a2
              split at a2
              · omega
              · rename_i c; have := Classical.byContradiction c; simpa [vF] using this
/-- The value of an event in a field. -/
def fvl (ts : List Tp) (x : Ev) (nm : ByteArray) : V4.Vl := x.v.getD (fdq (ts.getD x.t.toNat dT).f nm).toNat vl0
theorem ixq_ex {α : Type} {q : α → Bool} {l : List α} (h : 0 ≤ ixq q l 0) : ∃ j, ∃ hj : j < l.length, ixq q l 0 = (j : Int) ∧ q l[j] = true := by
  rcases ixq_lt (q := q) l 0 with c | ⟨j, hj, c, d⟩
  · omega
  · exact ⟨j, hj, by rw [c]; simp, d⟩
theorem fvl_ok {ts : List Tp} {x : Ev} {nm : ByteArray} (h : evk ts x = 0) (hf : 0 ≤ fdq (ts.getD x.t.toNat dT).f nm) : ∃ k, ∃ hk : k < x.v.length, fdq (ts.getD x.t.toNat dT).f nm = (k : Int) ∧ fvl ts x nm = x.v[k] ∧ V4.vchk (fvl ts x nm) = 0 ∧ (fvl ts x nm).k = (fck (ts.getD x.t.toNat dT).f nm).1 := by
  obtain ⟨i, hi, e1, e2, e3⟩ := evk_ok h
  have et : ts.getD x.t.toNat dT = ts[i] := by rw [e1, Int.toNat_natCast]; exact getD_lt hi _
  rw [et] at hf ⊢
  obtain ⟨k, hk, e4, _⟩ := ixq_ex hf
  have e4' : fdq ts[i].f nm = (k : Int) := e4
  have hkv : k < x.v.length := by omega
  have e5 : fvl ts x nm = x.v[k] := by unfold fvl; rw [et, e4', Int.toNat_natCast]; exact getD_lt hkv _
  obtain ⟨a1, a2⟩ := e3 k hkv hk
  refine ⟨k, hkv, e4', e5, by rw [e5]; exact a1, ?_⟩
  rw [e5, a2]
  unfold fck
  rw [if_neg (by omega), e4', Int.toNat_natCast, getD_lt hk]
/-- The value that a side stands for. -/
def svl (ts : List Tp) (ws : List Pt) (own : Ev) (kn : List Ev) (o : Opd) : V4.Vl :=
  if o.k = 2 then fvl ts own o.fd else if o.k = 3 then fvl ts (kn.getD (ptq ws o.va).toNat ev0) o.fd else ⟨o.vk, o.vi, o.vt⟩
/-- Events of whens. -/
def Kok (ts : List Tp) (ws : List Pt) (kn : List Ev) : Prop := kn.length = ws.length ∧ ∀ j (hj : j < kn.length) (hw : j < ws.length), evk ts kn[j] = 0 ∧ tyq ts ws[j].ty = kn[j].t
theorem vck_zero {vk vi : Int} {vt : ByteArray} (h : vck vk vi vt = 0) : V4.vchk ⟨vk, vi, vt⟩ = 0 := by rw [vck_eq]; exact h
theorem svl_ok {ts : List Tp} {ws : List Pt} {own : Ev} {kn : List Ev} {o : Opd} (hs : (sdk ts ws (ts.getD own.t.toNat dT) o).2 = 0) (ho : evk ts own = 0) (hk : Kok ts ws kn) : V4.vchk (svl ts ws own kn o) = 0 ∧ (svl ts ws own kn o).k = (sdk ts ws (ts.getD own.t.toNat dT) o).1 := by
  unfold sdk at hs ⊢
  by_cases h0 : 1 ≤ o.k ∧ o.k ≤ 3
  · rw [if_neg (fun c => c h0)] at hs ⊢
    by_cases h1 : o.k = 1
    · rw [if_pos h1] at hs ⊢
      split at hs
      · simp at hs
      · rename_i c
        rw [if_neg c]
        unfold svl
        rw [if_neg (by omega), if_neg (by omega)]
        exact ⟨vck_zero hs, rfl⟩
    · rw [if_neg h1] at hs ⊢
      by_cases h2 : o.k = 2
      · rw [if_pos h2] at hs ⊢
        split at hs
        · simp at hs
        · rename_i c
          rw [if_neg c]
          unfold svl
          rw [if_pos h2]
          have hf : 0 ≤ fdq (ts.getD own.t.toNat dT).f o.fd := by
            unfold fck at hs
            split at hs
            · simp at hs
            · omega
          obtain ⟨k, hk1, _, _, a, b⟩ := fvl_ok ho hf
          exact ⟨a, b⟩
      · rw [if_neg h2] at hs ⊢
        split at hs
        · simp at hs
        · rename_i c1
          rw [if_neg c1]
          split at hs
          · simp at hs
          · rename_i c2
            rw [if_neg c2]
            obtain ⟨j, hj, e1, _⟩ := ixq_ex (q := fun p : Pt => seq p.va o.va) (l := ws) (by show 0 ≤ ptq ws o.va; omega)
            have e1' : ptq ws o.va = (j : Int) := e1
            have hjk : j < kn.length := by rw [hk.1]; exact hj
            obtain ⟨g1, g2⟩ := hk.2 j hjk hj
            have et : tyOf ts ws o.va = ts.getD kn[j].t.toNat dT := by
              unfold tyOf
              rw [e1', Int.toNat_natCast, getD_lt hj, g2]
              rfl
            have es : svl ts ws own kn o = fvl ts kn[j] o.fd := by
              unfold svl
              rw [if_neg h2, if_pos (by omega), e1', Int.toNat_natCast, getD_lt hjk]
            rw [et] at hs ⊢
            rw [es]
            have hf : 0 ≤ fdq (ts.getD kn[j].t.toNat dT).f o.fd := by
              unfold fck at hs
              split at hs
              · simp at hs
              · omega
            obtain ⟨k, hk1, _, _, a, b⟩ := fvl_ok g1 hf
            exact ⟨a, b⟩
  · rw [if_pos h0] at hs; simp at hs
/-- Does a comparison hold, of what comes of comparing? -/
def cmb (k n : Int) : Bool := if k = 4 then decide (n = 0) else if k = 5 then !decide (n = 0) else if k = 6 then decide (n < 0) else decide (n ≤ 0)
/-- Does a condition hold? -/
def hld (ts : List Tp) (ws : List Pt) (own : Ev) (kn : List Ev) : Nat → Cn → Bool
  | 0, _ => false
  | n + 1, c => if c.k = 0 then true else if c.k = 1 then (subs c).all (hld ts ws own kn n) else if c.k = 2 then (subs c).any (hld ts ws own kn n) else if c.k = 3 then !(hld ts ws own kn n ((subs c).getD 0 cn0)) else cmb c.k (V4.ord (svl ts ws own kn c.l) (svl ts ws own kn c.r))
theorem cgo_all {f : Cn → Int × Int} : ∀ (l : List Cn) (m : Int), (cgo f l m).2 = 0 → ∀ x, x ∈ l → (f x).2 = 0
  | [], _, _, x, hx => by cases hx
  | y :: r, m, h, x, hx => by
    rw [cgo] at h
    split at h
    · rename_i c; exact absurd h c
    · rename_i c
      split at h
      · simp at h
      · rcases List.mem_cons.1 hx with rfl | hx
        · exact Classical.byContradiction c
        · exact cgo_all r _ h x hx
/-- A condition that may be: a group, or a comparison. -/
theorem cdk_ok {ts : List Tp} {ws : List Pt} {own : Tp} {n : Nat} {c : Cn} (h : (cdk ts ws own n c).2 = 0) : ∃ m, n = m + 1 ∧ 1 ≤ c.k ∧ c.k ≤ 7 ∧ (c.k ≤ 3 → (c.k = 3 → c.sb.length = 1) ∧ ∀ x, x ∈ subs c → (cdk ts ws own m x).2 = 0) ∧ (3 < c.k → (sdk ts ws own c.l).2 = 0 ∧ (sdk ts ws own c.r).2 = 0 ∧ (sdk ts ws own c.l).1 = (sdk ts ws own c.r).1) := by
  cases n with
  | zero => unfold cdk at h; split at h <;> simp at h
  | succ m =>
    refine ⟨m, rfl, ?_⟩
    unfold cdk at h
    split at h
    · simp at h
    · rename_i c0
      have c0' : 1 ≤ c.k ∧ c.k ≤ 7 := Classical.byContradiction c0
      refine ⟨c0'.1, c0'.2, fun hk => ?_, fun hk => ?_⟩
      · rw [if_neg (by omega)] at h
        split at h
        · simp at h
        · split at h
          · simp at h
          · rename_i c2
            exact ⟨fun h3 => by omega, fun x hx => cgo_all _ _ h x hx⟩
      · rw [if_pos hk] at h
        split at h
        · simp at h
        · split at h
          · rename_i c1; exact absurd h c1
          · rename_i c1
            split at h
            · rename_i c2; exact absurd h c2
            · rename_i c2
              split at h
              · simp at h
              · rename_i c3
                exact ⟨Classical.byContradiction c1, Classical.byContradiction c2, Classical.byContradiction c3⟩
end Go.Proofs.YthndlfdbmljkhaaDoor.Chk
namespace Go.Proofs.YthndlfdbmljkhaaDoor.Chk
open Go.ChangeShapes Go.WideShapes Go.ChangeAt Go.RowKit Go.Maps
set_option linter.unusedVariables false
set_option linter.unusedSimpArgs false
set_option maxRecDepth 20000
/-- The event ahead of a place. -/
def prv (l : List Ev) (k : Nat) : Option Ev := if k = 0 then none else l[k - 1]?
/-- May an event not have come behind another one? -/
def bhd (p : Option Ev) (x : Ev) : Bool := match p with | none => false | some a => decide (x.n ≤ a.n) || decide (x.en < a.en)
theorem bhd_some (a x : Ev) : bhd (some a) x = (decide (x.n ≤ a.n) || decide (x.en < a.en)) := rfl
/-- What is wrong with events, as they came. -/
def jes (ts : List Tp) : Option Ev → List Ev → Int
  | _, [] => 0
  | p, x :: r => if evk ts x ≠ 0 then evk ts x else if bhd p x = true then 9 else jes ts (some x) r
/-- What CheckEvents tells. -/
def jek (ts : List Tp) (rs : List Rl) (l : List Ev) : Int := if bok ts rs ≠ 0 then bok ts rs else if 120 < l.length then 1 else jes ts none l
theorem prv_succ (l : List Ev) (k : Nat) (hk : k < l.length) : prv l (k + 1) = some l[k] := by
  unfold prv
  rw [if_neg (by omega), Nat.add_sub_cancel, List.getElem?_eq_getElem hk]
theorem jes_at (ts : List Tp) (l : List Ev) (k : Nat) (hk : k < l.length) : jes ts (prv l k) (l.drop k) = if evk ts l[k] ≠ 0 then evk ts l[k] else if bhd (prv l k) l[k] = true then 9 else jes ts (prv l (k + 1)) (l.drop (k + 1)) := by
  rw [List.drop_eq_getElem_cons hk, jes, prv_succ l k hk]
theorem jes_end (ts : List Tp) (p : Option Ev) (l : List Ev) (k : Nat) (hk : l.length ≤ k) : jes ts p (l.drop k) = 0 := by
  rw [List.drop_of_length_le hk, jes]
set_option maxHeartbeats 8000000 in
theorem mayFollow_any (x a : Ev) (u v : Value) (A B : List Value) (w : World) (hA : A = [.int .i64 x.n, .int .i64 x.t, .int .i64 x.st, .int .i64 x.en, u]) (hB : B = [.int .i64 a.n, .int .i64 a.t, .int .i64 a.st, .int .i64 a.en, v]) :
    Calls Tryd.prog 8 #[.agg A.toArray, .agg B.toArray] w fun e w' => e = .returned (.bool (!bhd (some a) x)) ∧ Below w.heap.size w w' := by
  have hX : BlkT w (w.alloc (.cells A.toArray 35)) A 35 := BlkT.start w _ _
  have hY : Below w.heap.size w ((w.alloc (.cells A.toArray 35)).alloc (.cells B.toArray 35)) := below_trans hX.bel ((Below.refl _ _).alloc (Nat.le_refl _) _) hX.bel.size
  have hZ := hX.next ((Below.refl _ _).alloc (Nat.le_refl _) (.cells B.toArray 35))
  have hV : ((w.alloc (.cells A.toArray 35)).alloc (.cells B.toArray 35)).heap[w.heap.size + 1]? = some (.cells B.toArray 35 (0, 0)) := by
    have h := heap_alloc_new (w.alloc (.cells A.toArray 35)) (.cells B.toArray 35)
    simpa using h
  have c0 : ((w.alloc (.cells A.toArray 35)).alloc (.cells B.toArray 35)).cell? ⟨w.heap.size, 0, none⟩ = some (.int .i64 x.n) := by rw [hZ.c 0, hA]; rfl
  have c3 : ((w.alloc (.cells A.toArray 35)).alloc (.cells B.toArray 35)).cell? ⟨w.heap.size, 3, none⟩ = some (.int .i64 x.en) := by rw [hZ.c 3, hA]; rfl
  have d0 : ((w.alloc (.cells A.toArray 35)).alloc (.cells B.toArray 35)).cell? ⟨w.heap.size + 1, 0, none⟩ = some (.int .i64 a.n) := by rw [cell_of_blk hV 0, hB]; rfl
  have d3 : ((w.alloc (.cells A.toArray 35)).alloc (.cells B.toArray 35)).cell? ⟨w.heap.size + 1, 3, none⟩ = some (.int .i64 a.en) := by rw [cell_of_blk hV 3, hB]; rfl
  obtain ⟨xn, xt, xs, xe, xv⟩ := x
  obtain ⟨an, at_, as_, ae, av⟩ := a
  simp only at c0 c3 d0 d3
  have HB := hid hY
  clear hX hY hZ hV hA hB
  unfold bhd
  simp only
  by_cases h1 : an < xn
  · have g1 : decide (xn > an) = true := by simpa using h1
    have g2 : decide (xn ≤ an) = false := by simp; omega
    rw [g2]
    clear h1
    go_enter Tryd.func8, Tryd.ntmps8
    go_wp2_with fail
    go_ret
    exact ⟨ret_bool (by rw [Bool.eq_iff_iff]; simp), HB.out⟩
  · have g1 : decide (xn > an) = false := by simp; omega
    have g2 : decide (xn ≤ an) = true := by simp; omega
    rw [g2]
    clear h1
    go_enter Tryd.func8, Tryd.ntmps8
    go_wp2_with fail
    go_ret
    exact ⟨ret_bool (by simp), HB.out⟩
theorem ent_mf : ∀ args w, (callFunc 8 args).run Tryd.prog w = .ok (.enter 8 args) w := enters_of Tryd.func8 (by kernel_rfl) rfl
theorem ent_ef : ∀ args w, (callFunc 10 args).run Tryd.prog w = .ok (.enter 10 args) w := enters_of Tryd.func10 (by kernel_rfl) rfl
set_option maxHeartbeats 32000000 in
theorem cev_any (ts : List Tp) (rs : List Rl) (hzz : ∀ r, r ∈ rs → Szr r) (tv rv : Value) (l : List Ev) (lv : Value) (w : World) (hT : Rd w (.row 45 2 (ts.map encY)) tv) (hR : Rd w (.row 59 7 (rs.map encR)) rv) (hL : Rd w (.row 35 5 (l.map encX)) lv) (htk : Tab w 0 kpl) (htr : Tab w 1 rll) :
    Calls Tryd.prog 4 #[.agg #[tv, rv], lv] w fun e w' => e = .returned (.int .i64 (jek ts rs l)) ∧ Below w.heap.size w w' := by
  have HCH := hid (fun W (hW : Below w.heap.size w W) => check_any ts rs hzz tv rv W (hT.later hW) (hR.later hW) (tab_later htk hW) (tab_later htr hW))
  have HCK := hid (fun (y : Ev) (yv : Value) W (hW : Below w.heap.size w W) (hy : Rd W (.row 78 3 (y.v.map encV)) yv) => checkEvent_p ts y tv yv W (hT.later hW) hy)
  obtain ⟨E0, hE0⟩ : ∃ E, bok ts rs = E := ⟨_, rfl⟩
  unfold jek
  rw [hE0] at HCH ⊢
  obtain ⟨tp, tn, tc, rfl⟩ := rd_shape hT
  obtain ⟨rp, rn, rc, rfl⟩ := rd_shape hR
  obtain ⟨lp, lc, rfl, hmx, hat⟩ := rd_row lenX hL
  have HAT : Hid (At encX 5 w lp l) := hat
  obtain ⟨n, hnl⟩ : ∃ n, l.length = n := ⟨_, rfl⟩
  have HN := hid hnl
  rw [hnl] at hmx ⊢
  obtain ⟨R, hRR⟩ : ∃ R, jes ts none l = R := ⟨_, rfl⟩
  have HR : Hid (jes ts (prv l 0) (l.drop 0) = R) := hRR
  rw [hRR]
  have hT0 : BlkT w (w.alloc (.cells [.slice tp tn tc, .slice rp rn rc].toArray 25)) [.slice tp tn tc, .slice rp rn rc] 25 := BlkT.start w _ _
  have HT0 := hid hT0
  clear hT hR hL hat hnl hRR hE0 hT0 hzz
  clear htk htr
  by_cases hz : E0 = 0
  · rw [if_neg (fun c => c hz)]
    subst hz
    by_cases hn : 120 < n
    · rw [if_pos hn]
      have d1 : decide ((n : Int) > 120) = true := by simp; omega
      have d2 : (120 : Int) < (n : Int) := by omega
      have d3 : (120 < n) = True := by simp; omega
      go_enter Tryd.func4, Tryd.ntmps4
      go_wp2_with fail
      refine (HCH.out _ HT0.out.bel).mono ?_
      rintro e w1 ⟨rfl, hb1⟩
      have HT1 := hid (HT0.out.next hb1)
      clear hb1
      go_wp2_with fail
      go_ret
      exact ⟨rfl, HT1.out.bel⟩
    · rw [if_neg hn]
      have d1 : decide ((n : Int) > 120) = false := by simp; omega
      have d2 : ¬ (120 : Int) < (n : Int) := by omega
      have d3 : (120 < n) = False := by simp; omega
      go_enter Tryd.func4, Tryd.ntmps4
      go_wp2_with fail
      refine (HCH.out _ HT0.out.bel).mono ?_
      rintro e w1 ⟨rfl, hb1⟩
      have HT1 := hid (HT0.out.next hb1)
      clear hb1
      go_wp2_with fail
      clear d1 d2 d3
      go_loopg [19] (n + 1) (fun gg i wr => ∃ k : Nat, k ≤ n ∧ gg = n + 1 - k ∧ i = .int .i64 (k : Nat) ∧ jes ts (prv l k) (l.drop k) = R ∧ BlkT w wr [.slice tp tn tc, .slice rp rn rc] 25)
      case atStart => exact ⟨0, by omega, by omega, rfl, HR.out, HT1.out⟩
      case round =>
        obtain ⟨k, hk, rfl, rfl, hev, hT⟩ := hrel
        have HT := hid hT
        by_cases hlt : k < n
        · have hkc : k < l.length := by have := HN.out; omega
          obtain ⟨g, off, e03, hrd⟩ := HAT.out (by omega)
          obtain ⟨A, r1, o1⟩ := hrd wr hT.bel k hkc
          obtain ⟨yv, z1, o2⟩ := rdX o1
          obtain ⟨a1, a2, a3, hu1⟩ := rd_shape o2
          subst e03
          have hAz : A.length = 5 := o1.1.symm
          rw [jes_at ts l k hkc] at hev
          have hcall := fun W (hW : Below wr.heap.size wr W) => HCK.out l[k] yv W (below_trans hT.bel hW hT.bel.size) (o2.later hW)
          obtain ⟨e9, he9⟩ : ∃ e9, evk ts l[k] = e9 := ⟨_, rfl⟩
          rw [he9] at hcall hev
          have HCM : Hid (∀ W, Below wr.heap.size wr W → Calls Tryd.prog 7 #[.slice tp tn tc, .agg A.toArray] W fun e w' => e = .returned (.int .i64 e9) ∧ Below W.heap.size W w') := fun W hW => by rw [z1]; exact hcall W hW
          have HAO : Hid (A.all (·.oneCell') = true) := by show _ = _; rw [z1, hu1]; rfl
          have ZA : Hid ((Tryd.prog.info? 35).map (·.size) = some A.length) := by show _ = _; rw [hAz]; kernel_rfl
          have HAL := hid hAz
          have HAZ := hid z1
          have X1_ := hid r1
          have HEV := hid hev
          have HRD := hid hrd
          have i1 : (0 : Int) ≤ (k : Int) := by omega
          have i2 : (k : Int) < (n : Int) := by omega
          clear hT hrd r1 o1 hAz hev hcall he9 z1 hu1 o2
          go_wp2_with (first
            | ((with_reducible show wpList _ _ _ (Oper.mk _ (.load _ _) _ _ _ _ :: _) _ _); refine wpList_load_mid (by rfl) 35 _ (by rfl) g (off + k * 5) (by rfl) A _ X1_.out Tryd.underlying35 rfl ZA.out ?_)
            | ((with_reducible show wpList _ _ _ (Oper.mk _ (.store _ _ _) _ _ _ _ :: _) _ _); refine wp_st (by rfl) 35 _ _ (by rfl) wr.heap.size 0 _ 35 (.agg A.toArray) A (by rfl) (by rfl) (by rfl) (heap_alloc_new _ _) (by have := HAL.out; simp; omega) ZA.out HAO.out ?_; intro w1 hblk hfr; rw [ovr_all (by rw [HAL.out]; rfl)] at hblk; have XB : Hid (w1.rangeAt wr.heap.size 0 A) := range_blk hblk; have HBK := hid hblk; have HBW : Hid (Below wr.heap.size wr w1) := new_store hfr; have c0 : w1.cell? ⟨w.heap.size, 0, none⟩ = some (.slice tp tn tc) := (HT.out.next HBW.out).c 0; clear hblk hfr)
            | ((with_reducible show wpList _ _ _ (Oper.mk _ (.load _ _) _ _ _ _ :: _) _ _); refine wpList_load_mid (by rfl) 35 _ (by rfl) wr.heap.size 0 (by rfl) A _ XB.out Tryd.underlying35 rfl ZA.out ?_))
          refine (HCM.out _ HBW.out).mono ?_
          rintro e w2 ⟨rfl, hb2⟩
          have HB2 := hid (below_trans HBW.out hb2 HBW.out.size)
          have HT2 := hid (HT.out.next HB2.out)
          have XB2 := hid (range_below XB.out hb2)
          clear hb2 c0 XB
          by_cases hz : e9 = 0
          · have HE2 := HEV.out
            rw [if_neg (fun c => c hz)] at HE2
            have HE3 := hid HE2
            subst hz
            clear HE2 HEV
            by_cases h0 : k = 0
            · subst h0
              have HE4 : Hid (jes ts (prv l 1) (l.drop 1) = R) := by have h := HE3.out; rw [if_neg (by simp [prv, bhd])] at h; exact h
              have d1 : decide (((0 : Nat) : Int) > 0) = false := by simp
              go_wp2_with fail
              go_quiet (fail)
              go_wp2_with fail
              go_roundg (n + 1 - (0 + 1))
              case rel => exact ⟨1, by omega, rfl, by go_num, HE4.out, HT2.out.next (below_drawn (Below.refl _ _) _)⟩
              case measure => omega
            · obtain ⟨j, hj⟩ : ∃ j, j + 1 = k := ⟨k - 1, by omega⟩
              have hjl : j < l.length := by omega
              obtain ⟨B, r3, o3⟩ := HRD.out wr HT.out.bel j hjl
              obtain ⟨bv, z3, o4⟩ := rdX o3
              have hBz : B.length = 5 := o3.1.symm
              have ZB : Hid ((Tryd.prog.info? 35).map (·.size) = some B.length) := by show _ = _; rw [hBz]; kernel_rfl
              have XJ := hid r3
              have hmf := fun W => mayFollow_any l[k] l[j] yv bv A B W HAZ.out z3
              have hp : prv l k = some l[j] := by rw [← hj]; exact prv_succ l j hjl
              have HE4 := HE3.out
              rw [hp] at HE4
              obtain ⟨q9, hq9⟩ : ∃ q, (!bhd (some l[j]) l[k]) = q := ⟨_, rfl⟩
              rw [hq9] at hmf
              have hq8 : bhd (some l[j]) l[k] = !q9 := by rw [← hq9]; simp
              rw [hq8] at HE4
              have HE5 := hid HE4
              have HMF := hid hmf
              have HS : Hid (∀ W, Below w2.heap.size w2 W → (W.rangeAt wr.heap.size 0 A ∧ W.rangeAt g (off + j * 5) B)) := fun W hW => ⟨range_below XB2.out hW, range_below XJ.out (below_trans HB2.out hW HB2.out.size)⟩
              have d1 : decide ((k : Int) > 0) = true := by simp; omega
              have d1b : (0 < k) = True := by simp; omega
              have d1c : decide (0 < k) = true := by simp; omega
              have d5 : wrap64 ((k : Int) - 1) = ((j : Nat) : Int) := by unfold wrap64; omega
              have d5b : IntKind.i64.wrap ((k : Int) - 1) = ((j : Nat) : Int) := (IntWalk.i64_left _).trans d5
              have i3 : (0 : Int) ≤ ((j : Nat) : Int) := by omega
              have i4 : ((j : Nat) : Int) < (n : Int) := by omega
              clear r3 o3 z3 o4 hBz hmf hp HE4 HE3 hq9 hq8 hj hjl h0
              go_wp2_with fail
              refine start_n (S := (fun w' => w'.rangeAt wr.heap.size 0 A ∧ w'.rangeAt g (off + j * 5) B)) 12 #[false, false, false, false, false, false, false, false, false, false, false, false] rfl rfl (by kernel_rfl) (HS.out _ (Below.drew (Below.refl _ _))) (fun hHeld => ?_)
              refine take_mk (i := 0) (v := ?v1) rfl (by kernel_rfl) (by kernel_rfl) (by kernel_rfl) (fun _ _ _ h => h) (Or.inl ⟨by rfl, ?hy1⟩) (by assumption) ?rest1
              case hy1 => (intro w0 hSw; (try dsimp only at hSw); go_simp <;> (try (with_reducible rfl)))
              (try simp only [Act.put, List.setIfInBounds_toArray, List.set_cons_zero, List.set_cons_succ])
              refine take_mk (i := 1) (v := ?v2) rfl (by kernel_rfl) (by kernel_rfl) (by kernel_rfl) (fun _ _ _ h => h) (Or.inl ⟨by rfl, ?hy2⟩) (by assumption) ?rest2
              case hy2 => (intro w0 hSw; (try dsimp only at hSw); go_simp <;> (try (with_reducible rfl)))
              (try simp only [Act.put, List.setIfInBounds_toArray, List.set_cons_zero, List.set_cons_succ])
              refine take_mk (i := 2) (v := ?v3) rfl (by kernel_rfl) (by kernel_rfl) (by kernel_rfl) (fun _ _ _ h => h) (Or.inl ⟨by rfl, ?hy3⟩) (by assumption) ?rest3
              case hy3 => (intro w0 hSw; (try dsimp only at hSw); go_simp <;> (try (with_reducible rfl)))
              (try simp only [Act.put, List.setIfInBounds_toArray, List.set_cons_zero, List.set_cons_succ])
              refine take_mk (i := 4) (v := ?v4) rfl (by kernel_rfl) (by kernel_rfl) (by kernel_rfl) (fun _ _ _ h => h) (Or.inl ⟨by rfl, ?hy4⟩) (by assumption) ?rest4
              case hy4 => (intro w0 hSw; (try dsimp only at hSw); go_simp <;> (try (with_reducible rfl)))
              (try simp only [Act.put, List.setIfInBounds_toArray, List.set_cons_zero, List.set_cons_succ])
              refine take_mk (i := 5) (v := ?v5) rfl (by kernel_rfl) (by kernel_rfl) (by kernel_rfl) (fun _ _ _ h => h) (Or.inl ⟨by rfl, ?hy5⟩) (by assumption) ?rest5
              case hy5 => (intro w0 hSw; (try dsimp only at hSw); go_simp <;> (try (with_reducible rfl)))
              (try simp only [Act.put, List.setIfInBounds_toArray, List.set_cons_zero, List.set_cons_succ])
              refine take_mk (i := 6) (v := ?v6) rfl (by kernel_rfl) (by kernel_rfl) (by kernel_rfl) (fun _ _ _ h => h) (Or.inl ⟨by rfl, ?hy6⟩) (by assumption) ?rest6
              case hy6 => (intro w0 hSw; (try dsimp only at hSw); go_simp <;> (try (with_reducible rfl)))
              (try simp only [Act.put, List.setIfInBounds_toArray, List.set_cons_zero, List.set_cons_succ])
              refine take_mk (i := 7) (v := ?v7) rfl (by kernel_rfl) (by kernel_rfl) (by kernel_rfl) (fun _ _ _ h => h) (Or.inl ⟨by rfl, ?hy7⟩) (by assumption) ?rest7
              case hy7 => (intro w0 hSw; (try dsimp only at hSw); go_simp <;> (try (with_reducible rfl)))
              (try simp only [Act.put, List.setIfInBounds_toArray, List.set_cons_zero, List.set_cons_succ])
              refine take_mk (i := 3) rfl (by kernel_rfl) (by kernel_rfl) (by kernel_rfl) (fun _ _ _ h => h) (yieldsIf_load_mid (by rfl) 35 _ rfl wr.heap.size (0) (by rfl) A _ (fun _ h => h.1) Tryd.underlying35 rfl ZA.out) (by assumption) ?_
              (try simp only [Act.put, List.setIfInBounds_toArray, List.set_cons_zero, List.set_cons_succ])
              refine take_mk (i := 8) rfl (by kernel_rfl) (by kernel_rfl) (by kernel_rfl) (fun _ _ _ h => h) (yieldsIf_load_mid (by rfl) 35 _ rfl g (off + j * 5) (by rfl) B _ (fun _ h => h.2) Tryd.underlying35 rfl ZB.out) (by assumption) ?_
              (try simp only [Act.put, List.setIfInBounds_toArray, List.set_cons_zero, List.set_cons_succ])
              refine wpAnyH_ready (rs := [9]) (by kernel_rfl) (by simp) ?_
              refine cons_mk rfl (fun K hK => ?_) AllReadyH.nil
              refine step_call2 8 ent_mf (by rfl) _ _ _ (by rfl) (.agg A.toArray) (.agg B.toArray) (by rfl) (by rfl) _ (HMF.out _) ?_
              rintro e w3 ⟨rfl, hb3⟩
              refine ⟨_, rfl, ?_⟩
              have HB3 : Hid (Below w2.heap.size w2 w3) := below_trans (Below.drew (Below.refl _ _)) hb3 (Nat.le_refl _)
              clear hb3
              refine hK.out _ _ (HS.out _ HB3.out) (fun hHeld => ?_)
              clear hK K
              (try simp only [Act.put, List.setIfInBounds_toArray, List.set_cons_zero, List.set_cons_succ])
              refine take_mk (i := 10) (v := ?v8) rfl (by kernel_rfl) (by kernel_rfl) (by kernel_rfl) (fun _ _ _ h => h) (Or.inl ⟨by rfl, ?hy8⟩) (by assumption) ?rest8
              case hy8 => (intro w0 hSw; (try dsimp only at hSw); go_simp <;> (try (with_reducible rfl)))
              (try simp only [Act.put, List.setIfInBounds_toArray, List.set_cons_zero, List.set_cons_succ])
              refine take_mk (i := 11) (v := ?v9) rfl (by kernel_rfl) (by kernel_rfl) (by kernel_rfl) (fun _ _ _ h => h) (Or.inl ⟨by rfl, ?hy9⟩) (by assumption) ?rest9
              case hy9 => (intro w0 hSw; (try dsimp only at hSw); go_simp <;> (try (with_reducible rfl)))
              (try simp only [Act.put, List.setIfInBounds_toArray, List.set_cons_zero, List.set_cons_succ])
              refine wpAnyH_done (by kernel_rfl) ?_ _
              have HT3 := hid (HT2.out.next HB3.out)
              clear HS HMF
              cases q9 with
              | true =>
                have HE6 : Hid (jes ts (prv l (k + 1)) (l.drop (k + 1)) = R) := by have h := HE5.out; rw [if_neg (by decide)] at h; exact h
                go_wp2_with fail
                go_roundg (n + 1 - (k + 1))
                case rel => exact ⟨k + 1, by omega, rfl, by go_num, HE6.out, HT3.out⟩
                case measure => omega
              | false =>
                have HE6 : Hid (R = 9) := by have h := HE5.out; rw [if_pos (by decide)] at h; exact h.symm
                go_wp2_with fail
                go_ret
                exact ⟨ret_int HE6.out.symm, HT3.out.bel⟩
          · have HE2 : Hid (R = e9) := by have h := HEV.out; rw [if_pos hz] at h; exact h.symm
            have d9 : (e9 != 0) = true := by simpa using hz
            clear hz
            go_wp2_with fail
            go_ret
            exact ⟨ret_int HE2.out.symm, HT2.out.bel⟩
        · obtain rfl : k = n := by omega
          have HE2 : Hid (R = 0) := by rw [jes_end ts _ l k (by have := HN.out; omega)] at hev; exact hev.symm
          clear hev hT
          go_wp2_with fail
          go_ret
          exact ⟨ret_int HE2.out.symm, HT.out.bel⟩
  · rw [if_pos hz]
    have d9 : (E0 != 0) = true := by simpa using hz
    clear hz
    go_enter Tryd.func4, Tryd.ntmps4
    go_wp2_with fail
    refine (HCH.out _ HT0.out.bel).mono ?_
    rintro e w1 ⟨rfl, hb1⟩
    have HT1 := hid (HT0.out.next hb1)
    clear hb1
    go_wp2_with fail
    go_ret
    exact ⟨rfl, HT1.out.bel⟩
set_option maxHeartbeats 32000000 in
theorem efs_any (ts : List Tp) (rs : List Rl) (hzz : ∀ r, r ∈ rs → Szr r) (tv rv : Value) (l : List Ev) (lv : Value) (w : World) (hT : Rd w (.row 45 2 (ts.map encY)) tv) (hR : Rd w (.row 59 7 (rs.map encR)) rv) (hL : Rd w (.row 35 5 (l.map encX)) lv) :
    Calls Tryd.prog 5 #[.agg #[tv, rv], lv] w fun e w' => e = .returned (.int .i64 (jek ts rs l)) ∧ Below w.heap.size w w' := by
  have HCH := hid (fun W (hW : Below w.heap.size w W) => bookFault_any ts rs (fun x hx => ⟨fun t ht => ((hzz x hx).w t ht).wfc, fun t ht => ((hzz x hx).t t ht).wfc, fun m hm => ((hzz x hx).m m hm).wfc⟩) tv rv W (hT.later hW) (hR.later hW))
  have HCK := hid (fun (y : Ev) (yv : Value) W (hW : Below w.heap.size w W) (hy : Rd W (.row 78 3 (y.v.map encV)) yv) => eventFault_p ts y tv yv W (hT.later hW) hy)
  obtain ⟨E0, hE0⟩ : ∃ E, bok ts rs = E := ⟨_, rfl⟩
  unfold jek
  rw [hE0] at HCH ⊢
  obtain ⟨tp, tn, tc, rfl⟩ := rd_shape hT
  obtain ⟨rp, rn, rc, rfl⟩ := rd_shape hR
  obtain ⟨lp, lc, rfl, hmx, hat⟩ := rd_row lenX hL
  have HAT : Hid (At encX 5 w lp l) := hat
  obtain ⟨n, hnl⟩ : ∃ n, l.length = n := ⟨_, rfl⟩
  have HN := hid hnl
  rw [hnl] at hmx ⊢
  obtain ⟨R, hRR⟩ : ∃ R, jes ts none l = R := ⟨_, rfl⟩
  have HR : Hid (jes ts (prv l 0) (l.drop 0) = R) := hRR
  rw [hRR]
  have hT0 : BlkT w (w.alloc (.cells [.slice tp tn tc, .slice rp rn rc].toArray 25)) [.slice tp tn tc, .slice rp rn rc] 25 := BlkT.start w _ _
  have HT0 := hid hT0
  clear hT hR hL hat hnl hRR hE0 hT0 hzz
  by_cases hz : E0 = 0
  · rw [if_neg (fun c => c hz)]
    subst hz
    by_cases hn : 120 < n
    · rw [if_pos hn]
      have d1 : decide ((n : Int) > 120) = true := by simp; omega
      have d2 : (120 : Int) < (n : Int) := by omega
      have d3 : (120 < n) = True := by simp; omega
      go_enter Tryd.func5, Tryd.ntmps5
      go_wp2_with fail
      refine (HCH.out _ HT0.out.bel).mono ?_
      rintro e w1 ⟨rfl, hb1⟩
      have HT1 := hid (HT0.out.next hb1)
      clear hb1
      go_wp2_with fail
      go_loopg [5, 6] 1 (fun gg e i wr => gg = 1 ∧ e = .int .i64 1 ∧ i = .int .i64 0 ∧ BlkT w wr [.slice tp tn tc, .slice rp rn rc] 25)
      case atStart => exact ⟨rfl, rfl, rfl, HT1.out⟩
      case round =>
        obtain ⟨rfl, rfl, rfl, hT⟩ := hrel
        have HT := hid hT
        clear hT
        go_wp2_with fail
        all_goals
          go_ret
          exact ⟨rfl, HT.out.bel⟩
    · rw [if_neg hn]
      have d1 : decide ((n : Int) > 120) = false := by simp; omega
      have d2 : ¬ (120 : Int) < (n : Int) := by omega
      have d3 : (120 < n) = False := by simp; omega
      go_enter Tryd.func5, Tryd.ntmps5
      go_wp2_with fail
      refine (HCH.out _ HT0.out.bel).mono ?_
      rintro e w1 ⟨rfl, hb1⟩
      have HT1 := hid (HT0.out.next hb1)
      clear hb1
      go_wp2_with fail
      clear d1 d2 d3
      go_loopg [5, 6] (n + 1) (fun gg e i wr => ∃ (k : Nat) (e1 : Int), k ≤ n ∧ gg = n + 1 - k ∧ e = .int .i64 e1 ∧ i = .int .i64 (k : Nat) ∧ BlkT w wr [.slice tp tn tc, .slice rp rn rc] 25 ∧ (if e1 ≠ 0 then e1 else jes ts (prv l k) (l.drop k)) = R)
      case atStart => exact ⟨0, 0, by omega, by omega, rfl, rfl, HT1.out, by rw [if_neg (by simp)]; exact HR.out⟩
      case round =>
        obtain ⟨k, e1, hk, rfl, rfl, rfl, hT, hev⟩ := hrel
        have HT := hid hT
        by_cases hlt : k < n
        · have d2 : decide ((k : Int) < (n : Int)) = true := by simp; omega
          by_cases he : e1 = 0
          · subst he
            rw [if_neg (by simp)] at hev
            have hkc : k < l.length := by have := HN.out; omega
            obtain ⟨g, off, e03, hrd⟩ := HAT.out (by omega)
            obtain ⟨A, r1, o1⟩ := hrd w (Below.refl _ _) k hkc
            obtain ⟨yv, z1, o2⟩ := rdX o1
            subst e03
            have hAz : A.length = 5 := o1.1.symm
            rw [jes_at ts l k hkc] at hev
            have hcall := fun W (hW : Below w.heap.size w W) => HCK.out l[k] yv W hW (o2.later hW)
            obtain ⟨e9, he9⟩ : ∃ e9, evk ts l[k] = e9 := ⟨_, rfl⟩
            rw [he9] at hcall hev
            have HCM : Hid (∀ W, Below w.heap.size w W → Calls Tryd.prog 10 #[.slice tp tn tc, .agg A.toArray] W fun e w' => e = .returned (.int .i64 e9) ∧ Below W.heap.size W w') := fun W hW => by rw [z1]; exact hcall W hW
            have ZA : Hid ((Tryd.prog.info? 35).map (·.size) = some A.length) := by show _ = _; rw [hAz]; kernel_rfl
            have HS : Hid (∀ w', BlkT w w' [.slice tp tn tc, .slice rp rn rc] 25 → (fun w' => BlkT w w' [.slice tp tn tc, .slice rp rn rc] 25 ∧ w'.cell? ⟨w.heap.size, 0, none⟩ = some (.slice tp tn tc) ∧ w'.rangeAt g (off + k * 5) A) w') := hid fun w' h => ⟨h, h.c 0, range_below r1 h.bel⟩
            have HD := hid (HT.out.next (Below.drew (Below.refl _ _)))
            have HNA : Hid (∀ w', BlkT w w' [.slice tp tn tc, .slice rp rn rc] 25 → w'.cell? ⟨g, off + k * 5, none⟩ = some (.int .i64 l[k].n) ∧ w'.cell? ⟨g, off + k * 5 + 3, none⟩ = some (.int .i64 l[k].en)) := hid fun w' h => by
              have r2 := range_below r1 h.bel
              rw [z1] at r2
              exact ⟨by simpa using r2 0 _ rfl, r2 3 _ rfl⟩
            have HEV := hid hev
            have HRD := hid hrd
            have i1 : (0 : Int) ≤ (k : Int) := by omega
            have i2 : (k : Int) < (n : Int) := by omega
            have HMW : Hid (wrap64 ((k : Int) + 1) = ((k + 1 : Nat) : Int)) := by have := HN.out; show _ = _; unfold wrap64; omega
            clear hT hrd r1 o1 hAz hev hcall he9 z1 o2
            go_wp2_with fail
            refine start_n (S := (fun w' => BlkT w w' [.slice tp tn tc, .slice rp rn rc] 25 ∧ w'.cell? ⟨w.heap.size, 0, none⟩ = some (.slice tp tn tc) ∧ w'.rangeAt g (off + k * 5) A)) 8 #[false, false, false, false, false, false, false, false] rfl rfl (by kernel_rfl) (HS.out _ HD.out) (fun hHeld => ?_)
            refine take_mk (i := 0) (v := ?v10) rfl (by kernel_rfl) (by kernel_rfl) (by kernel_rfl) (fun _ _ _ h => h) (Or.inl ⟨by rfl, ?hy10⟩) (by assumption) ?rest10
            case hy10 => (intro w0 hSw; (try dsimp only at hSw); go_simp <;> (try (with_reducible rfl)))
            (try simp only [Act.put, List.setIfInBounds_toArray, List.set_cons_zero, List.set_cons_succ])
            refine take_mk (i := 1) (v := ?v11) rfl (by kernel_rfl) (by kernel_rfl) (by kernel_rfl) (fun _ _ _ h => h) (Or.inl ⟨by rfl, ?hy11⟩) (by assumption) ?rest11
            case hy11 => (intro w0 hSw; (try dsimp only at hSw); go_simp <;> (try (with_reducible rfl)))
            (try simp only [Act.put, List.setIfInBounds_toArray, List.set_cons_zero, List.set_cons_succ])
            refine take_mk (i := 2) (v := ?v12) rfl (by kernel_rfl) (by kernel_rfl) (by kernel_rfl) (fun _ _ _ h => h) (Or.inl ⟨by rfl, ?hy12⟩) (by assumption) ?rest12
            case hy12 => (intro w0 hSw; (try dsimp only at hSw); go_simp <;> (try (with_reducible rfl)))
            (try simp only [Act.put, List.setIfInBounds_toArray, List.set_cons_zero, List.set_cons_succ])
            refine take_mk (i := 3) (v := ?v13) rfl (by kernel_rfl) (by kernel_rfl) (by kernel_rfl) (fun _ _ _ h => h) (Or.inl ⟨by rfl, ?hy13⟩) (by assumption) ?rest13
            case hy13 => (intro w0 hSw; (try dsimp only at hSw); go_simp <;> (try (with_reducible rfl)))
            (try simp only [Act.put, List.setIfInBounds_toArray, List.set_cons_zero, List.set_cons_succ])
            refine take_mk (i := 4) (v := ?v14) rfl (by kernel_rfl) (by kernel_rfl) (by kernel_rfl) (fun _ _ _ h => h) (Or.inl ⟨by rfl, ?hy14⟩) (by assumption) ?rest14
            case hy14 => (intro w0 hSw; (try dsimp only at hSw); go_simp <;> (try (with_reducible rfl)))
            (try simp only [Act.put, List.setIfInBounds_toArray, List.set_cons_zero, List.set_cons_succ])
            refine take_mk (i := 5) rfl (by kernel_rfl) (by kernel_rfl) (by kernel_rfl) (fun _ _ _ h => h) (yieldsIf_load_mid (by rfl) 35 _ rfl g (off + k * 5) (by rfl) A _ (fun _ h => h.2.2) Tryd.underlying35 rfl ZA.out) (by assumption) ?_
            (try simp only [Act.put, List.setIfInBounds_toArray, List.set_cons_zero, List.set_cons_succ])
            refine wpAnyH_ready (rs := [6]) (by kernel_rfl) (by simp) ?_
            refine cons_mk rfl (fun K hK => ?_) AllReadyH.nil
            refine step_call2 10 ent_ef (by rfl) _ _ _ (by rfl) (.slice tp tn tc) (.agg A.toArray) (by rfl) (by rfl) _ (HCM.out _ HD.out.bel) ?_
            rintro e w3 ⟨rfl, hb3⟩
            refine ⟨_, rfl, ?_⟩
            have HT3 := hid (HD.out.next hb3)
            clear hb3
            refine hK.out _ _ (HS.out _ HT3.out) (fun hHeld => ?_)
            clear hK K
            (try simp only [Act.put, List.setIfInBounds_toArray, List.set_cons_zero, List.set_cons_succ])
            refine take_mk (i := 7) (v := ?v15) rfl (by kernel_rfl) (by kernel_rfl) (by kernel_rfl) (fun _ _ _ h => h) (Or.inl ⟨by rfl, ?hy15⟩) (by assumption) ?rest15
            case hy15 => (intro w0 hSw; (try dsimp only at hSw); go_simp <;> (try (with_reducible rfl)))
            (try simp only [Act.put, List.setIfInBounds_toArray, List.set_cons_zero, List.set_cons_succ])
            refine wpAnyH_done (by kernel_rfl) ?_ _
            clear HS HCM HD
            by_cases hz : e9 = 0
            · have HE2 := HEV.out
              rw [if_neg (fun c => c hz)] at HE2
              have HE3 := hid HE2
              subst hz
              clear HE2 HEV
              by_cases h0 : k = 0
              · have HE4 : Hid ((if (0 : Int) ≠ 0 then (0 : Int) else jes ts (prv l (k + 1)) (l.drop (k + 1))) = R) := by have h := HE3.out; rw [if_neg (by simp [prv, bhd, h0])] at h; rw [if_neg (by simp)]; exact h
                have d1 : decide ((k : Int) > 0) = false := by simp; omega
                have d1b : (0 < k) = False := by simp; omega
                have d1c : decide (0 < k) = false := by simp; omega
                clear h0
                go_wp2_with fail
                go_quiet (fail)
                go_wp2_with fail
                go_roundg (n + 1 - (k + 1))
                case rel => exact ⟨k + 1, 0, by omega, rfl, rfl, by go_num, HT3.out.next (below_drawn (Below.refl _ _) _), HE4.out⟩
                case measure => omega
              · obtain ⟨j, hj⟩ : ∃ j, j + 1 = k := ⟨k - 1, by omega⟩
                have hjl : j < l.length := by omega
                obtain ⟨B, r3, o3⟩ := HRD.out w3 HT3.out.bel j hjl
                obtain ⟨bv, z3, o4⟩ := rdX o3
                rw [z3] at r3
                have n1 : w3.cell? ⟨g, off + j * 5, none⟩ = some (.int .i64 l[j].n) := by simpa using r3 0 _ rfl
                have n2 : w3.cell? ⟨g, off + j * 5 + 3, none⟩ = some (.int .i64 l[j].en) := r3 3 _ rfl
                obtain ⟨n3, n4⟩ := HNA.out w3 HT3.out
                have hp : prv l k = some l[j] := by rw [← hj]; exact prv_succ l j hjl
                have HE4 := HE3.out
                rw [hp] at HE4
                rw [bhd_some] at HE4
                obtain ⟨bn, hbn⟩ : ∃ x, l[j].n = x := ⟨_, rfl⟩
                obtain ⟨be, hbe⟩ : ∃ x, l[j].en = x := ⟨_, rfl⟩
                obtain ⟨an, han⟩ : ∃ x, l[k].n = x := ⟨_, rfl⟩
                obtain ⟨ae, hae⟩ : ∃ x, l[k].en = x := ⟨_, rfl⟩
                rw [hbn] at n1 HE4
                rw [hbe] at n2 HE4
                rw [han] at n3 HE4
                rw [hae] at n4 HE4
                have HE5 := hid HE4
                have d1 : decide ((k : Int) > 0) = true := by simp; omega
                have d1b : (0 < k) = True := by simp; omega
                have d1c : decide (0 < k) = true := by simp; omega
                have d5 : wrap64 ((k : Int) - 1) = ((j : Nat) : Int) := by unfold wrap64; omega
                have d5b : IntKind.i64.wrap ((k : Int) - 1) = ((j : Nat) : Int) := (IntWalk.i64_left _).trans d5
                have i3 : (0 : Int) ≤ ((j : Nat) : Int) := by omega
                have i4 : ((j : Nat) : Int) < (n : Int) := by omega
                clear r3 o3 z3 o4 hp HE4 HE3 hj hjl h0 hbn hbe han hae HRD HNA
                by_cases q1 : an ≤ bn
                · have q2 : decide (an ≤ bn) = true := by simpa using q1
                  have HE6 : Hid ((if (9 : Int) ≠ 0 then (9 : Int) else jes ts (prv l (k + 1)) (l.drop (k + 1))) = R) := by have h := HE5.out; rw [q2, if_pos (by simp)] at h; rw [if_pos (by decide)]; exact h
                  clear q1
                  go_wp2_with fail
                  go_quiet (fail)
                  go_wp2_with fail
                  go_roundg (n + 1 - (k + 1))
                  case rel => exact ⟨k + 1, 9, by omega, rfl, rfl, by go_num, HT3.out.next (below_drawn (Below.refl _ _) _), HE6.out⟩
                  case measure => omega
                · have q2 : decide (an ≤ bn) = false := by simpa using q1
                  by_cases q3 : ae < be
                  · have q4 : decide (ae < be) = true := by simpa using q3
                    have HE6 : Hid ((if (9 : Int) ≠ 0 then (9 : Int) else jes ts (prv l (k + 1)) (l.drop (k + 1))) = R) := by have h := HE5.out; rw [q2, q4, if_pos (by simp)] at h; rw [if_pos (by decide)]; exact h
                    clear q1 q3
                    go_wp2_with fail
                    go_quiet (fail)
                    go_wp2_with fail
                    go_roundg (n + 1 - (k + 1))
                    case rel => exact ⟨k + 1, 9, by omega, rfl, rfl, by go_num, HT3.out.next (below_drawn (Below.refl _ _) _), HE6.out⟩
                    case measure => omega
                  · have q4 : decide (ae < be) = false := by simpa using q3
                    have HE6 : Hid ((if (0 : Int) ≠ 0 then (0 : Int) else jes ts (prv l (k + 1)) (l.drop (k + 1))) = R) := by have h := HE5.out; rw [q2, q4, if_neg (by simp)] at h; rw [if_neg (by simp)]; exact h
                    clear q1 q3
                    go_wp2_with fail
                    go_quiet (fail)
                    go_wp2_with fail
                    go_roundg (n + 1 - (k + 1))
                    case rel => exact ⟨k + 1, 0, by omega, rfl, rfl, by go_num, HT3.out.next (below_drawn (Below.refl _ _) _), HE6.out⟩
                    case measure => omega
            · have HE2 : Hid ((if e9 ≠ 0 then e9 else jes ts (prv l (k + 1)) (l.drop (k + 1))) = R) := by have h := HEV.out; rw [if_pos hz] at h; rw [if_pos hz]; exact h
              have d1 : (e9 == 0) = false := by simpa using hz
              clear hz
              go_wp2_with fail
              go_quiet (fail)
              go_wp2_with fail
              go_roundg (n + 1 - (k + 1))
              case rel => exact ⟨k + 1, e9, by omega, rfl, rfl, by go_num, HT3.out.next (below_drawn (Below.refl _ _) _), HE2.out⟩
              case measure => omega
          · have d1 : (e1 == 0) = false := by simpa using he
            have HQ6 : Hid (R = e1) := by rw [if_pos he] at hev; exact hev.symm
            clear hev he hT
            go_wp2_with fail
            go_ret
            exact ⟨ret_int HQ6.out.symm, HT.out.bel⟩
        · obtain rfl : k = n := by omega
          have HQ6 : Hid (R = e1) := by
            rw [jes_end ts _ l k (by have := HN.out; omega)] at hev
            show R = e1
            split at hev
            · exact hev.symm
            · rename_i c; rw [← hev]; exact (Classical.byContradiction c).symm
          clear hev hT
          go_wp2_with fail
          go_ret
          exact ⟨ret_int HQ6.out.symm, HT.out.bel⟩
  · rw [if_pos hz]
    have d9 : (E0 == 0) = false := by simpa using hz
    clear hz
    go_enter Tryd.func5, Tryd.ntmps5
    go_wp2_with fail
    refine (HCH.out _ HT0.out.bel).mono ?_
    rintro e w1 ⟨rfl, hb1⟩
    have HT1 := hid (HT0.out.next hb1)
    clear hb1
    go_wp2_with fail
    go_loopg [5, 6] 1 (fun gg e i wr => gg = 1 ∧ e = .int .i64 E0 ∧ i = .int .i64 0 ∧ BlkT w wr [.slice tp tn tc, .slice rp rn rc] 25)
    case atStart => exact ⟨rfl, rfl, rfl, HT1.out⟩
    case round =>
      obtain ⟨rfl, rfl, rfl, hT⟩ := hrel
      have HT := hid hT
      clear hT
      go_wp2_with fail
      all_goals
        go_ret
        exact ⟨rfl, HT.out.bel⟩
end Go.Proofs.YthndlfdbmljkhaaDoor.Chk
namespace Go.Proofs.YthndlfdbmljkhaaDoor.Chk
open Go.Deep Go.ChangeShapes Go.WideShapes Go.ChangeAt Go.RowKit Go.Maps
set_option linter.unusedVariables false
set_option linter.unusedSimpArgs false
set_option maxRecDepth 20000
theorem rdl_oneX {w : World} : ∀ {L : List Ev} {xs : List Value}, RdL w (L.map encX).flatten xs → xs.length = L.length * 5 ∧ ∀ u, u ∈ xs → u.oneCell' = true
  | [], xs, h => by rw [RdL.none h]; exact ⟨rfl, fun u hu => by cases hu⟩
  | p :: L, xs, h => by
    obtain ⟨us, rs, rfl, h1, h2⟩ := RdL.split (ds := encX p) (es := (L.map encX).flatten) h
    obtain ⟨a, b⟩ := rdl_oneX h2
    obtain ⟨v, rfl, h3⟩ := rdX h1
    obtain ⟨x, y, z, rfl⟩ := rd_shape h3
    refine ⟨by rw [List.length_append, a]; simp [List.length_cons]; omega, fun u hu => ?_⟩
    rcases List.mem_append.1 hu with hu | hu
    · exact List.all_eq_true.1 (show ([.int .i64 p.n, .int .i64 p.t, .int .i64 p.st, .int .i64 p.en, .slice x y z] : List Value).all (·.oneCell') = true from rfl) u hu
    · exact b u hu
abbrev zX : Value := .agg #[.int .i64 0, .int .i64 0, .int .i64 0, .int .i64 0, .slice none 0 0]
theorem infoX : (Tryd.prog.info? 35).map (fun i => (i.zero, i.size, i.bytes)) = some (some zX, 5, 56) := by kernel_rfl
theorem rd_ownX {w0 w : World} {v : Value} {L : List Ev} {xs : List Value} (h1 : w.ownsRow w0.heap.size 35 5 v L.length xs) (h2 : RdL w (L.map encX).flatten xs) : Rd w (.row 35 5 (L.map encX)) v := by
  have hc := h1
  rcases h1.2 with ⟨rfl, h5⟩ | ⟨ga, cap, cur, rfl, _, _, hn, hx, _⟩
  · obtain rfl : L = [] := List.eq_nil_of_length_eq_zero h5
    exact .nil _ _ none 0 (Nat.zero_le _)
  · by_cases h0 : 0 < L.length
    · have := Rd.row (w := w) 35 5 (L.map encX) ga 0 cap xs (by simpa using h0) (by simpa using hn) hx (fun j u hu => by
        have := hc.cells (g := ga) rfl j u hu
        rw [Addr.add_mid] at this
        simpa using this) h2.1 h2.2
      simpa using this
    · obtain rfl : L = [] := List.eq_nil_of_length_eq_zero (by omega)
      exact .nil _ _ _ cap hx
theorem run_copyX (w : World) (ty : TypeId) {v : Value} {l : List Ev} (hu : Rd w (.row 35 5 (l.map encX)) v) (hb : l.length * 56 ≤ 140737488355328) :
    ∃ v' w', (Builtin.append_ #[26, 26] ty #[.slice none 0 0, v]).run Tryd.prog w = .ok v' w' ∧ Rd w' (.row 35 5 (l.map encX)) v' ∧ Below w.heap.size w w' := by
  obtain ⟨i0, hi, hz0, hz1, hz2⟩ := info_parts infoX
  generalize hd : Dat.row 35 5 (l.map encX) = d at hu
  cases hu with
  | lit v => cases hd
  | nil e z p cap h1 =>
    simp only [Dat.row.injEq] at hd
    obtain rfl : l = [] := List.eq_nil_of_length_eq_zero (by have := congrArg List.length hd.2.2; simpa using this)
    refine ⟨.slice none 0 0, w, ?_, ?_, Below.refl _ _⟩
    · cases p <;> simp [Builtin.append_, run_underlying Tryd.underlying26, sizeOf, typeInfo, hi, Builtin.lenOf, Builtin.firstCells, loadCells, loadCellsFrom]
    · obtain ⟨rfl, rfl, _⟩ := hd
      exact .nil _ _ none 0 (Nat.zero_le _)
  | row e' z' l' g off cap xs h1 h2 h3 h4 h5 h6 =>
    simp only [Dat.row.injEq] at hd
    obtain ⟨rfl, rfl, rfl⟩ := hd
    have hR : RdL w (l.map encX).flatten xs := ⟨h5, h6⟩
    obtain ⟨c1, c2⟩ := rdl_oneX hR
    rw [List.length_map]
    have hl0 : 0 < l.length := by simpa using h1
    obtain ⟨v', w', r1, r2, r3, _, r5⟩ := run_append_own_at (P := Tryd.prog) w w.heap.size 26 ty 35 i0 zX 5 56 Tryd.underlying26 hi hz0 hz1 hz2 rfl (by omega) (.slice none 0 0) 0 [] (World.ownsRow_nil w w.heap.size 35 5) ⟨g, off, none⟩ l.length cap xs c1 (fun j u hj => by rw [Addr.add_mid]; exact h4 j u hj) c2 (by unfold maxLen; omega) (by omega) (Nat.le_refl _)
    have hB : Below w.heap.size w w' := (Below.refl _ _).grown r3 (Nat.le_refl _) (fun k hk => by cases hk)
    exact ⟨v', w', r1, rd_ownX (w0 := w) (by simpa using r2) (hR.below hB), hB⟩
theorem step_copyX (w : World) {ops : Array Oper} {o : Oper} {a : Act} {K : Act → World → Prop} {Q : Exit → Act → World → Prop} {E : Prop} (hgd : o.guard = none) (s x : Operand)
    (ho : o.op = .call { callee := .builtin .append, args := #[s, x], argTypes := #[26, 26] }) (v : Value) (l : List Ev) (hs : a.eval s = .slice none 0 0) (hx : a.eval x = v) (hd : Rd w (.row 35 5 (l.map encX)) v) (hb : l.length * 56 ≤ 140737488355328)
    (h : ∀ v' w', Rd w' (.row 35 5 (l.map encX)) v' → Below w.heap.size w w' → K (a.put o.dst v') w') :
    if Region.wanted o (yielded ops a.tmps) = true then Oper.wp Tryd.prog o a w K Q else E := by
  have hw : Region.wanted o (yielded ops a.tmps) = true := by simp [Region.wanted, hgd]
  rw [if_pos hw]
  obtain ⟨v', w', hr, h2, h3⟩ := run_copyX w o.type hd hb
  unfold Oper.wp execOp
  simp only [ho, resolve, invoke, builtin, Sem.run_bind, Sem.run_pure, Result.andThen_ok, List.map_toArray, List.map_cons, List.map_nil, hs, hx, hr]
  exact h v' w' h2 h3
section
variable {H : Type} {enc : TypeId × Value → H} {W : World} {base b0 : Nat} {r : Reach} {spare : Nat → Bool} {held : Bool} {v : Value} {d : DataW H} {p : List MemPlace}
theorem kX : Tryd.prog.cellsOf 35 = 5 := by kernel_rfl
theorem kSp : Tryd.prog.cellsOf 32 = 2 := by kernel_rfl
theorem ksV : Tryd.prog.cellsOf 33 = 1 := by kernel_rfl
theorem tr_span {n : Nat} {cs : List Value} (h : Tr enc W base spare held n 32 cs) : ∃ a b : Int, RdL W [.lit (.int .i64 a), .lit (.int .i64 b)] cs := by
  obtain ⟨m, hm, hl, hf⟩ := tr_fld Tryd.underlying32 h
  rw [kSp] at hl
  have h0 : Tr enc W base spare held m 3 ((cs.drop 0).take (Tryd.prog.cellsOf 3)) := hf 0 _ rfl
  rw [k3] at h0
  have h1 : Tr enc W base spare held m 3 ((cs.drop 1).take (Tryd.prog.cellsOf 3)) := hf 1 _ rfl
  rw [k3] at h1
  obtain ⟨a, e0⟩ := tr_int h0
  obtain ⟨b, e1⟩ := tr_int h1
  exact ⟨a, b, rdl_fld (a := 0) (z := 1) (rdl_lit e0) rfl (rdl_fld (z := 1) (rdl_lit e1) rfl (rdl_end hl))⟩
theorem tr_event {n : Nat} {cs : List Value} (h : Tr enc W base spare held n 35 cs) : ∃ x : Ev, True ∧ RdL W (encX x) cs := by
  obtain ⟨m, hm, hl, hf⟩ := tr_fld Tryd.underlying35 h
  rw [kX] at hl
  have h0 : Tr enc W base spare held m 3 ((cs.drop 0).take (Tryd.prog.cellsOf 3)) := hf 0 _ rfl
  rw [k3] at h0
  have h1 : Tr enc W base spare held m 3 ((cs.drop 1).take (Tryd.prog.cellsOf 3)) := hf 1 _ rfl
  rw [k3] at h1
  have h2 : Tr enc W base spare held m 32 ((cs.drop 2).take (Tryd.prog.cellsOf 32)) := hf 2 _ rfl
  rw [kSp] at h2
  have h3 : Tr enc W base spare held m 33 ((cs.drop 4).take (Tryd.prog.cellsOf 33)) := hf 3 _ rfl
  rw [ksV] at h3
  obtain ⟨a, e0⟩ := tr_int h0
  obtain ⟨b, e1⟩ := tr_int h1
  obtain ⟨s, t, e2⟩ := tr_span h2
  obtain ⟨v, l, e3, q3, _⟩ := tr_row (ec := encV) (z := 3) (Q := fun _ => True) Tryd.underlying33 kV (by omega) h3 (fun m' hm' cs' h' => by obtain ⟨k, i, s, h9⟩ := tr_val h'; exact ⟨⟨k, i, s⟩, trivial, h9⟩)
  exact ⟨⟨a, b, s, t, l⟩, trivial, rdl_fld (a := 0) (z := 1) (rdl_lit e0) rfl (rdl_fld (z := 1) (rdl_lit e1) rfl (rdl_fld (z := 2) e2 rfl (rdl_fld (z := 1) (rdl_val e3 q3) rfl (rdl_end hl))))⟩
theorem open_event (hv : Value.okWide Tryd.prog W r b0 35 v) (h : DataW.Trod enc Tryd.prog W base spare held 35 v d p) : ∃ (x : Ev) (u : Value), v = evV x u ∧ Rd W (.row 78 3 (x.v.map encV)) u := by
  obtain ⟨cs, rfl, hsz⟩ := okWide_struct Tryd.underlying35 hv
  obtain ⟨fuel, hf⟩ := h
  have h : Tr enc W base spare held fuel 35 cs.toList := ⟨_, by simpa [Value.cells] using hf⟩
  obtain ⟨x, _, hr⟩ := tr_event h
  obtain ⟨u, z1, o2⟩ := rdX hr
  obtain ⟨l⟩ := cs
  simp only at z1
  subst z1
  exact ⟨x, u, rfl, o2⟩
theorem open_events (hv : Value.okWide Tryd.prog W r b0 26 v) (h : DataW.Trod enc Tryd.prog W base spare held 26 v d p) : ∃ l : List Ev, Rd W (.row 35 5 (l.map encX)) v := by
  obtain ⟨s, n, c, rfl⟩ := okWide_slice Tryd.underlying26 hv
  obtain ⟨fuel, hf⟩ := h
  have h : Tr enc W base spare held fuel 26 [.slice s n c] := ⟨_, by simpa [Value.cells] using hf⟩
  obtain ⟨v, l, e, q, _⟩ := tr_row (ec := encX) (z := 5) (Q := fun _ => True) Tryd.underlying26 kX (by omega) h (fun m' hm' cs' h' => tr_event h')
  simp only [List.cons.injEq, and_true] at e
  subst e
  exact ⟨l, q⟩
theorem bytesX : Tryd.prog.bytesOf 35 = 56 := by kernel_rfl
theorem evs_bound {ts : List TypeId} {ds : List (DataW H)} {j : Nat} {l : List Ev} (hv : Rd W (.row 35 5 (l.map encX)) v) (h : DataW.Trod enc Tryd.prog W base spare held 26 v d p) (hsz : (DataW.weightsEach Tryd.prog ts ds).all (· ≤ reachBytes) = true) (h1 : ts[j]? = some 26) (h2 : ds[j]? = some d) : l.length * 56 ≤ 140737488355328 := by
  obtain ⟨a, cap, rfl, _, _⟩ := rd_row lenX hv
  generalize l.length = len at h ⊢
  rcases slice_len Tryd.underlying26 h with rfl | ⟨elems, sp, rfl, rfl⟩
  · omega
  · have := sized_slice hsz h1 h2 Tryd.underlying26
    rw [bytesX] at this
    have hr : reachBytes ≤ 140737488355328 := by decide
    have e : elems.length * 56 ≤ (elems.length + sp.length) * 56 := Nat.mul_le_mul_right _ (by omega)
    omega
end
theorem ent_cev : ∀ args w, (callFunc 4 args).run Tryd.prog w = .ok (.enter 4 args) w := enters_of Tryd.func4 (by kernel_rfl) rfl
set_option maxHeartbeats 16000000 in
theorem joinEvents_walk (ts : List Tp) (rs : List Rl) (hzz : ∀ r, r ∈ rs → Szr r) (tv rv : Value) (l : List Ev) (lv : Value) (w : World) (hT : Rd w (.row 45 2 (ts.map encY)) tv) (hR : Rd w (.row 59 7 (rs.map encR)) rv) (hL : Rd w (.row 35 5 (l.map encX)) lv) (htk : Tab w 0 kpl) (htr : Tab w 1 rll) (hb : l.length * 56 ≤ 140737488355328) :
    Calls Tryd.prog 3 #[.agg #[tv, rv], lv] w fun e w' => e = .returned (.bool true) ∧ Below w.heap.size w w' := by
  obtain ⟨R, hRR⟩ : ∃ R, jek ts rs l = R := ⟨_, rfl⟩
  obtain ⟨tp, tn, tc, hte⟩ := rd_shape hT
  obtain ⟨rp, rn, rc, hre⟩ := rd_shape hR
  obtain ⟨lp, n, lc, hle⟩ := rd_shape hL
  obtain ⟨UL, hUL⟩ : ∃ UL : List Value, [tv, rv] = UL := ⟨_, rfl⟩
  have HC : Hid (∀ W lv', Below w.heap.size w W → Rd W (.row 35 5 (l.map encX)) lv' → Calls Tryd.prog 4 #[.agg UL.toArray, lv'] W fun e w' => e = .returned (.int .i64 R) ∧ Below W.heap.size W w') := fun W lv' hW hl => by rw [← hUL, ← hRR]; exact cev_any ts rs hzz tv rv l lv' W (hT.later hW) (hR.later hW) hl (tab_later htk hW) (tab_later htr hW)
  have HF : Hid (∀ W, Below w.heap.size w W → Calls Tryd.prog 5 #[.agg UL.toArray, lv] W fun e w' => e = .returned (.int .i64 R) ∧ Below W.heap.size W w') := fun W hW => by rw [← hUL, ← hRR]; exact efs_any ts rs hzz tv rv l lv W (hT.later hW) (hR.later hW) (hL.later hW)
  have hUz : UL.length = 2 := by rw [← hUL]; rfl
  have ZU : Hid ((Tryd.prog.info? 25).map (·.size) = some UL.length) := by show _ = _; rw [hUz]; kernel_rfl
  have hsv : (Value.agg #[tv, rv]) = .agg UL.toArray := by rw [← hUL]
  rw [hsv]
  subst hle
  have HL := hid hL
  have HBN := hid hb
  have HT0 : Hid (BlkT w (w.alloc (.cells UL.toArray 25)) UL 25) := BlkT.start w _ _
  have HTD := hid (HT0.out.next (Below.drew (Below.refl _ _)))
  clear hT hR hL htk htr hzz hRR hsv hUL hUz hte hre hb
  go_enter Tryd.func3, Tryd.ntmps3
  go_wp2_with fail
  refine start_n (S := (fun w' => BlkT w w' UL 25)) 5 #[false, false, false, false, false] rfl rfl (by kernel_rfl) (HTD.out) (fun hHeld => ?_)
  refine take_mk (i := 1) (v := ?v1) rfl (by kernel_rfl) (by kernel_rfl) (by kernel_rfl) (fun _ _ _ h => h) (Or.inl ⟨by rfl, ?hy1⟩) (by assumption) ?rest1
  case hy1 => (intro w0 hSw; (try dsimp only at hSw); go_simp <;> (try (with_reducible rfl)))
  (try simp only [Act.put, List.setIfInBounds_toArray, List.set_cons_zero, List.set_cons_succ])
  refine take_mk (i := 0) rfl (by kernel_rfl) (by kernel_rfl) (by kernel_rfl) (fun _ _ _ h => h) (yieldsIf_load_mid (by rfl) 25 _ rfl w.heap.size (0) (by rfl) UL _ (fun _ h => range_blk h.b1) Tryd.underlying25 rfl ZU.out) (by assumption) ?_
  (try simp only [Act.put, List.setIfInBounds_toArray, List.set_cons_zero, List.set_cons_succ])
  refine wpAnyH_ready (rs := [2]) (by kernel_rfl) (by simp) ?_
  refine cons_mk rfl (fun K hK => ?_) AllReadyH.nil
  refine step_copyX _ (by rfl) _ _ (by rfl) (.slice lp n lc) l (by rfl) (by rfl) (HL.out.later HTD.out.bel) HBN.out ?_
  intro v' w3 hrd3 hb3
  obtain ⟨cp, cn, cc, rfl⟩ := rd_shape hrd3
  have HRD3 := hid hrd3
  have HT3 := hid (HTD.out.next hb3)
  clear hrd3 hb3
  refine hK.out _ _ (HT3.out) (fun hHeld => ?_)
  clear hK K
  (try simp only [Act.put, List.setIfInBounds_toArray, List.set_cons_zero, List.set_cons_succ])
  refine wpAnyH_ready (rs := [3]) (by kernel_rfl) (by simp) ?_
  refine cons_mk rfl (fun K hK => ?_) AllReadyH.nil
  refine step_call2 4 ent_cev (by rfl) _ _ _ (by rfl) (.agg UL.toArray) (.slice cp cn cc) (by rfl) (by rfl) _ (HC.out _ _ HT3.out.bel HRD3.out) ?_
  rintro e w4 ⟨rfl, hb4⟩
  refine ⟨_, rfl, ?_⟩
  have HT4 := hid (HT3.out.next hb4)
  clear hb4
  refine hK.out _ _ (HT4.out) (fun hHeld => ?_)
  clear hK K
  (try simp only [Act.put, List.setIfInBounds_toArray, List.set_cons_zero, List.set_cons_succ])
  refine take_mk (i := 4) (v := ?v2) rfl (by kernel_rfl) (by kernel_rfl) (by kernel_rfl) (fun _ _ _ h => h) (Or.inl ⟨by rfl, ?hy2⟩) (by assumption) ?rest2
  case hy2 => (intro w0 hSw; (try dsimp only at hSw); go_simp <;> (try (with_reducible rfl)))
  (try simp only [Act.put, List.setIfInBounds_toArray, List.set_cons_zero, List.set_cons_succ])
  refine wpAnyH_done (by kernel_rfl) ?_ _
  have XU := hid (range_blk HT4.out.b1)
  go_wp2_with ((with_reducible show wpList _ _ _ (Oper.mk _ (.load _ _) _ _ _ _ :: _) _ _); refine wpList_load_mid (by rfl) 25 _ (by rfl) w.heap.size 0 (by rfl) UL _ XU.out Tryd.underlying25 rfl ZU.out ?_)
  refine (HF.out _ HT4.out.bel).mono ?_
  rintro e w5 ⟨rfl, hb5⟩
  have HT5 := hid (HT4.out.next hb5)
  clear hb5
  go_wp2
  go_ret
  exact ⟨ret_bool (by simp), HT5.out.bel⟩
end Go.Proofs.YthndlfdbmljkhaaDoor.Chk
