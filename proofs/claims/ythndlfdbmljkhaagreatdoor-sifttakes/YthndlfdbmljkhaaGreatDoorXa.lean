/-
  Events that are only read; when conditions hold, in plain words. The value that a side stands for, by the program. Does a condition hold, by the program.
-/
import Derived.Test.YthndlfdbmljkhaaGreatDoorDp
import Derived.Test.YthndlfdbmljkhaaGreatDoorV4K
namespace Go.Proofs.YthndlfdbmljkhaaGreatDoor.Chk
open Go.ChangeShapes Go.WideShapes Go.ChangeAt Go.RowKit Go.Maps
set_option linter.unusedVariables false
set_option linter.unusedSimpArgs false
set_option maxRecDepth 20000
/-- An event: number, type, span, values. -/
structure Ev where
  n : Int
  t : Int
  st : Int
  en : Int
  v : List V4.Vl
def encV (v : V4.Vl) : List Dat := [.lit (.int .i64 v.k), .lit (.int .i64 v.n), .lit (.string v.s)]
def encX (x : Ev) : List Dat := [.lit (.int .i64 x.n), .lit (.int .i64 x.t), .lit (.int .i64 x.st), .lit (.int .i64 x.en), .row 59 3 (x.v.map encV)]
theorem lenV (c : V4.Vl) : (encV c).length = 3 := rfl
theorem lenX (c : Ev) : (encX c).length = 5 := rfl
theorem rdV {w : World} {o : V4.Vl} {vs : List Value} (h : RdL w (encV o) vs) : vs = [.int .i64 o.k, .int .i64 o.n, .string o.s] := by
  obtain ⟨v0, r0, rfl, h0, h⟩ := RdL.one h
  obtain ⟨v1, r1, rfl, h1, h⟩ := RdL.one h
  obtain ⟨v2, r2, rfl, h2, h⟩ := RdL.one h
  rw [rd_lit h0, rd_lit h1, rd_lit h2, RdL.none h]
theorem rdX {w : World} {x : Ev} {vs : List Value} (h : RdL w (encX x) vs) : ∃ u, vs = [.int .i64 x.n, .int .i64 x.t, .int .i64 x.st, .int .i64 x.en, u] ∧ Rd w (.row 59 3 (x.v.map encV)) u := by
  obtain ⟨v0, r0, rfl, h0, h⟩ := RdL.one h
  obtain ⟨v1, r1, rfl, h1, h⟩ := RdL.one h
  obtain ⟨v2, r2, rfl, h2, h⟩ := RdL.one h
  obtain ⟨v3, r3, rfl, h3, h⟩ := RdL.one h
  obtain ⟨v4, r4, rfl, h4, h⟩ := RdL.one h
  rw [rd_lit h0, rd_lit h1, rd_lit h2, rd_lit h3, RdL.none h]
  exact ⟨v4, rfl, h4⟩
def vT (t : Tp) : V4.Ty := ⟨t.n, t.f.map vF⟩
theorem valsAt {w : World} {v : Value} {l : List V4.Vl} (h : Rd w (.row 59 3 (l.map encV)) v) : V4.ValsAt w v l := by
  obtain ⟨p, cap, rfl, _, hat⟩ := rd_row lenV h
  obtain ⟨_, h1, h2⟩ := rd_caps h
  refine ⟨p, cap, rfl, h1, h2, fun h0 => ?_⟩
  obtain ⟨g, off, rfl, hr⟩ := hat h0
  refine ⟨g, off, rfl, fun j hj => ?_⟩
  obtain ⟨us, r1, r2⟩ := hr w (Below.refl _ _) j hj
  rw [rdV r2] at r1
  have c0 : w.cell? ⟨g, off + j * 3, none⟩ = some (.int .i64 l[j].k) := by simpa using r1 0 _ rfl
  have c1 : w.cell? ⟨g, off + j * 3 + 1, none⟩ = some (.int .i64 l[j].n) := r1 1 _ rfl
  have c2 : w.cell? ⟨g, off + j * 3 + 2, none⟩ = some (.string l[j].s) := r1 2 _ rfl
  exact ⟨World.block_lt_of_cell? _ _ c0, c0, c1, c2⟩
theorem tysAt {w : World} {v : Value} {ts : List Tp} (h : Rd w (.row 72 2 (ts.map encY)) v) : V4.TysAt w v (ts.map vT) := by
  obtain ⟨p, cap, rfl, _, hat⟩ := rd_row lenY h
  obtain ⟨_, h1, h2⟩ := rd_caps h
  have hl : (ts.map vT).length = ts.length := by simp
  refine ⟨p, cap, by rw [hl], by rw [hl]; exact h1, h2, fun h0 => ?_⟩
  obtain ⟨g, off, rfl, hr⟩ := hat (by rw [hl] at h0; exact h0)
  refine ⟨g, off, rfl, fun j hj => ?_⟩
  have hj' : j < ts.length := by rw [hl] at hj; exact hj
  obtain ⟨us, r1, r2⟩ := hr w (Below.refl _ _) j hj'
  obtain ⟨fv, z1, o2⟩ := rdY r2
  rw [z1] at r1
  have c0 : w.cell? ⟨g, off + j * 2, none⟩ = some (.string ts[j].n) := by simpa using r1 0 _ rfl
  have c1 : w.cell? ⟨g, off + j * 2 + 1, none⟩ = some fv := r1 1 _ rfl
  refine ⟨World.block_lt_of_cell? _ _ c0, ?_, fv, c1, ?_⟩
  · rw [List.getElem_map]; exact c0
  · rw [List.getElem_map]; exact fieldsAt o2
/-- What is wrong with an event. -/
def evk (ts : List Tp) (x : Ev) : Int := V4.echk (ts.map vT) x.n x.t x.st x.en x.v
abbrev evV (x : Ev) (u : Value) : Value := .agg #[.int .i64 x.n, .int .i64 x.t, .int .i64 x.st, .int .i64 x.en, u]
theorem checkEvent_p (ts : List Tp) (x : Ev) (tv u : Value) (w : World) (hT : Rd w (.row 72 2 (ts.map encY)) tv) (hu : Rd w (.row 59 3 (x.v.map encV)) u) :
    Calls Tryz.prog 30 #[tv, evV x u] w fun e w' => e = .returned (.int .i64 (evk ts x)) ∧ Below w.heap.size w w' :=
  V4.checkEvent_any tv (ts.map vT) x.n x.t x.st x.en u x.v w (tysAt hT) (valsAt hu)
theorem eventFault_p (ts : List Tp) (x : Ev) (tv u : Value) (w : World) (hT : Rd w (.row 72 2 (ts.map encY)) tv) (hu : Rd w (.row 59 3 (x.v.map encV)) u) :
    Calls Tryz.prog 18 #[tv, evV x u] w fun e w' => e = .returned (.int .i64 (evk ts x)) ∧ Below w.heap.size w w' :=
  V4.eventFault_any tv (ts.map vT) x.n x.t x.st x.en u x.v w (tysAt hT) (valsAt hu)
def dT : Tp := ⟨txt [], []⟩
def ev0 : Ev := ⟨0, 0, 0, 0, []⟩
def vl0 : V4.Vl := ⟨0, 0, txt []⟩
theorem getD_lt {α : Type} {l : List α} {i : Nat} (h : i < l.length) (d : α) : l.getD i d = l[i] := by simp [List.getD, List.getElem?_eq_getElem h]
/-- An event that may be: its type, and its values. -/
theorem evk_ok {ts : List Tp} {x : Ev} (h : evk ts x = 0) : ∃ i, ∃ hi : i < ts.length, x.t = (i : Int) ∧ x.v.length = ts[i].f.length ∧ ∀ k (hk : k < x.v.length) (hf : k < ts[i].f.length), V4.vchk x.v[k] = 0 ∧ x.v[k].k = ts[i].f[k].k := by
  unfold evk V4.echk at h
  split at h
  · omega
  · split at h
    · omega
    · rename_i c1 c2
      rw [List.length_map] at c2
      split at h
      · rename_i c; exact absurd h c
      · obtain ⟨i, hi⟩ : ∃ i : Nat, x.t = (i : Int) := ⟨x.t.toNat, by omega⟩
        have hil : i < ts.length := by omega
        refine ⟨i, hil, hi, ?_⟩
        rw [hi, Int.toNat_natCast, getD_lt (by rw [List.length_map]; exact hil), List.getElem_map] at h
        unfold V4.fit at h
        split at h
        · rename_i c; exact absurd h c
        · split at h
          · rename_i c; exact absurd h c
          · rename_i c3
            split at h
            · omega
            · rename_i c4
              have e1 : x.v.length = ts[i].f.length := by have := Classical.byContradiction c4; rw [this]; simp [vT]
              refine ⟨e1, fun k hk hf => ?_⟩
              have a1 := V4.fst_zero (Classical.byContradiction c3) k hk
              have a2 := V4.fst_zero h k hk
              unfold V4.vat at a1
              rw [List.getElem?_eq_getElem hk] at a1
              unfold V4.kat at a2
              have hg : (vT ts[i]).fs[k]? = some (vF ts[i].f[k]) := by simp [vT, List.getElem?_eq_getElem hf]
              rw [List.getElem?_eq_getElem hk, hg] at a2
              refine ⟨a1, ?_⟩
              simp only at a2
              split at a2
              · omega
              · rename_i c; have := Classical.byContradiction c; simpa [vF] using this
/-- The value of an event in a field. -/
def fvl (ts : List Tp) (x : Ev) (nm : ByteArray) : V4.Vl := x.v.getD (fdq (ts.getD x.t.toNat dT).f nm).toNat vl0
theorem ixq_ex {α : Type} {q : α → Bool} {l : List α} (h : 0 ≤ ixq q l 0) : ∃ j, ∃ hj : j < l.length, ixq q l 0 = (j : Int) ∧ q l[j] = true := by
  rcases ixq_lt (q := q) l 0 with c | ⟨j, hj, c, d⟩
  · omega
  · exact ⟨j, hj, by rw [c]; simp, d⟩
theorem fvl_ok {ts : List Tp} {x : Ev} {nm : ByteArray} (h : evk ts x = 0) (hf : 0 ≤ fdq (ts.getD x.t.toNat dT).f nm) : ∃ k, ∃ hk : k < x.v.length, fdq (ts.getD x.t.toNat dT).f nm = (k : Int) ∧ fvl ts x nm = x.v[k] ∧ V4.vchk (fvl ts x nm) = 0 ∧ (fvl ts x nm).k = (fck (ts.getD x.t.toNat dT).f nm).1 := by
  obtain ⟨i, hi, e1, e2, e3⟩ := evk_ok h
  have et : ts.getD x.t.toNat dT = ts[i] := by rw [e1, Int.toNat_natCast]; exact getD_lt hi _
  rw [et] at hf ⊢
  obtain ⟨k, hk, e4, _⟩ := ixq_ex hf
  have e4' : fdq ts[i].f nm = (k : Int) := e4
  have hkv : k < x.v.length := by omega
  have e5 : fvl ts x nm = x.v[k] := by unfold fvl; rw [et, e4', Int.toNat_natCast]; exact getD_lt hkv _
  obtain ⟨a1, a2⟩ := e3 k hkv hk
  refine ⟨k, hkv, e4', e5, by rw [e5]; exact a1, ?_⟩
  rw [e5, a2]
  unfold fck
  rw [if_neg (by omega), e4', Int.toNat_natCast, getD_lt hk]
/-- The value that a side stands for. -/
def svl (ts : List Tp) (ws : List Pt) (own : Ev) (kn : List Ev) (o : Opd) : V4.Vl :=
  if o.k = 2 then fvl ts own o.fd else if o.k = 3 then fvl ts (kn.getD (ptq ws o.va).toNat ev0) o.fd else ⟨o.vk, o.vi, o.vt⟩
/-- Events of whens. -/
def Kok (ts : List Tp) (ws : List Pt) (kn : List Ev) : Prop := kn.length = ws.length ∧ ∀ j (hj : j < kn.length) (hw : j < ws.length), evk ts kn[j] = 0 ∧ tyq ts ws[j].ty = kn[j].t
theorem vck_zero {vk vi : Int} {vt : ByteArray} (h : vck vk vi vt = 0) : V4.vchk ⟨vk, vi, vt⟩ = 0 := by rw [vck_eq]; exact h
theorem svl_ok {ts : List Tp} {ws : List Pt} {own : Ev} {kn : List Ev} {o : Opd} (hs : (sdk ts ws (ts.getD own.t.toNat dT) o).2 = 0) (ho : evk ts own = 0) (hk : Kok ts ws kn) : V4.vchk (svl ts ws own kn o) = 0 ∧ (svl ts ws own kn o).k = (sdk ts ws (ts.getD own.t.toNat dT) o).1 := by
  unfold sdk at hs ⊢
  by_cases h0 : 1 ≤ o.k ∧ o.k ≤ 3
  · rw [if_neg (fun c => c h0)] at hs ⊢
    by_cases h1 : o.k = 1
    · rw [if_pos h1] at hs ⊢
      split at hs
      · simp at hs
      · rename_i c
        rw [if_neg c]
        unfold svl
        rw [if_neg (by omega), if_neg (by omega)]
        exact ⟨vck_zero hs, rfl⟩
    · rw [if_neg h1] at hs ⊢
      by_cases h2 : o.k = 2
      · rw [if_pos h2] at hs ⊢
        split at hs
        · simp at hs
        · rename_i c
          rw [if_neg c]
          unfold svl
          rw [if_pos h2]
          have hf : 0 ≤ fdq (ts.getD own.t.toNat dT).f o.fd := by
            unfold fck at hs
            split at hs
            · simp at hs
            · omega
          obtain ⟨k, hk1, _, _, a, b⟩ := fvl_ok ho hf
          exact ⟨a, b⟩
      · rw [if_neg h2] at hs ⊢
        split at hs
        · simp at hs
        · rename_i c1
          rw [if_neg c1]
          split at hs
          · simp at hs
          · rename_i c2
            rw [if_neg c2]
            obtain ⟨j, hj, e1, _⟩ := ixq_ex (q := fun p : Pt => seq p.va o.va) (l := ws) (by show 0 ≤ ptq ws o.va; omega)
            have e1' : ptq ws o.va = (j : Int) := e1
            have hjk : j < kn.length := by rw [hk.1]; exact hj
            obtain ⟨g1, g2⟩ := hk.2 j hjk hj
            have et : tyOf ts ws o.va = ts.getD kn[j].t.toNat dT := by
              unfold tyOf
              rw [e1', Int.toNat_natCast, getD_lt hj, g2]
              rfl
            have es : svl ts ws own kn o = fvl ts kn[j] o.fd := by
              unfold svl
              rw [if_neg h2, if_pos (by omega), e1', Int.toNat_natCast, getD_lt hjk]
            rw [et] at hs ⊢
            rw [es]
            have hf : 0 ≤ fdq (ts.getD kn[j].t.toNat dT).f o.fd := by
              unfold fck at hs
              split at hs
              · simp at hs
              · omega
            obtain ⟨k, hk1, _, _, a, b⟩ := fvl_ok g1 hf
            exact ⟨a, b⟩
  · rw [if_pos h0] at hs; simp at hs
/-- Does a comparison hold, of what comes of comparing? -/
def cmb (k n : Int) : Bool := if k = 4 then decide (n = 0) else if k = 5 then !decide (n = 0) else if k = 6 then decide (n < 0) else decide (n ≤ 0)
/-- Does a condition hold? -/
def hld (ts : List Tp) (ws : List Pt) (own : Ev) (kn : List Ev) : Nat → Cn → Bool
  | 0, _ => false
  | n + 1, c => if c.k = 0 then true else if c.k = 1 then (subs c).all (hld ts ws own kn n) else if c.k = 2 then (subs c).any (hld ts ws own kn n) else if c.k = 3 then !(hld ts ws own kn n ((subs c).getD 0 cn0)) else cmb c.k (V4.ord (svl ts ws own kn c.l) (svl ts ws own kn c.r))
theorem cgo_all {f : Cn → Int × Int} : ∀ (l : List Cn) (m : Int), (cgo f l m).2 = 0 → ∀ x, x ∈ l → (f x).2 = 0
  | [], _, _, x, hx => by cases hx
  | y :: r, m, h, x, hx => by
    rw [cgo] at h
    split at h
    · rename_i c; exact absurd h c
    · rename_i c
      split at h
      · simp at h
      · rcases List.mem_cons.1 hx with rfl | hx
        · exact Classical.byContradiction c
        · exact cgo_all r _ h x hx
/-- A condition that may be: a group, or a comparison. -/
theorem cdk_ok {ts : List Tp} {ws : List Pt} {own : Tp} {n : Nat} {c : Cn} (h : (cdk ts ws own n c).2 = 0) : ∃ m, n = m + 1 ∧ 1 ≤ c.k ∧ c.k ≤ 7 ∧ (c.k ≤ 3 → (c.k = 3 → c.sb.length = 1) ∧ ∀ x, x ∈ subs c → (cdk ts ws own m x).2 = 0) ∧ (3 < c.k → (sdk ts ws own c.l).2 = 0 ∧ (sdk ts ws own c.r).2 = 0 ∧ (sdk ts ws own c.l).1 = (sdk ts ws own c.r).1) := by
  cases n with
  | zero => unfold cdk at h; split at h <;> simp at h
  | succ m =>
    refine ⟨m, rfl, ?_⟩
    unfold cdk at h
    split at h
    · simp at h
    · rename_i c0
      have c0' : 1 ≤ c.k ∧ c.k ≤ 7 := Classical.byContradiction c0
      refine ⟨c0'.1, c0'.2, fun hk => ?_, fun hk => ?_⟩
      · rw [if_neg (by omega)] at h
        split at h
        · simp at h
        · split at h
          · simp at h
          · rename_i c2
            exact ⟨fun h3 => by omega, fun x hx => cgo_all _ _ h x hx⟩
      · rw [if_pos hk] at h
        split at h
        · simp at h
        · split at h
          · rename_i c1; exact absurd h c1
          · rename_i c1
            split at h
            · rename_i c2; exact absurd h c2
            · rename_i c2
              split at h
              · simp at h
              · rename_i c3
                exact ⟨Classical.byContradiction c1, Classical.byContradiction c2, Classical.byContradiction c3⟩
end Go.Proofs.YthndlfdbmljkhaaGreatDoor.Chk
namespace Go.Proofs.YthndlfdbmljkhaaGreatDoor.Chk
open Go.ChangeShapes Go.WideShapes Go.ChangeAt Go.RowKit Go.Maps
set_option linter.unusedVariables false
set_option linter.unusedSimpArgs false
set_option maxRecDepth 20000
/-- Structs in new blocks, one behind the other, and what was there ahead of them. -/
structure Bxs (w0 W : World) (l : List (List Value × TypeId)) : Prop where
  bel : Below w0.heap.size w0 W
  b : ∀ i (hi : i < l.length), W.heap[w0.heap.size + i]? = some (.cells l[i].1.toArray l[i].2 (0, 0))
theorem Bxs.nil (w : World) : Bxs w w [] := ⟨Below.refl _ _, fun i hi => by simp at hi⟩
theorem Bxs.snoc {w0 W : World} {l : List (List Value × TypeId)} (h : Bxs w0 W l) (hs : W.heap.size = w0.heap.size + l.length) (us : List Value) (t : TypeId) : Bxs w0 (W.alloc (.cells us.toArray t)) (l ++ [(us, t)]) := by
  refine ⟨h.bel.alloc h.bel.size _, fun i hi => ?_⟩
  by_cases c : i < l.length
  · rw [Below.heap_alloc _ _ _ (by omega), List.getElem_append_left c]
    exact h.b i c
  · have e : i = l.length := by simp at hi; omega
    subst e
    rw [← hs]
    simpa using heap_alloc_new W (.cells us.toArray t)
theorem Bxs.next {w0 W W' : World} {l : List (List Value × TypeId)} (h : Bxs w0 W l) (hb : Below W.heap.size W W') : Bxs w0 W' l :=
  ⟨below_trans h.bel hb h.bel.size, fun i hi => (hb.block _ (blk_lt (h.b i hi))).trans (h.b i hi)⟩
theorem Bxs.c {w0 W : World} {l : List (List Value × TypeId)} (h : Bxs w0 W l) (i : Nat) (hi : i < l.length) (j : Nat) : W.cell? ⟨w0.heap.size + i, j, none⟩ = l[i].1[j]? := by rw [cell_of_blk (h.b i hi)]; simp
theorem Bxs.r {w0 W : World} {l : List (List Value × TypeId)} (h : Bxs w0 W l) (i : Nat) (hi : i < l.length) : W.rangeAt (w0.heap.size + i) 0 l[i].1 := range_blk (h.b i hi)
theorem bxs2 (w : World) (us vs : List Value) (t u : TypeId) : Bxs w ((w.alloc (.cells us.toArray t)).alloc (.cells vs.toArray u)) [(us, t), (vs, u)] := (((Bxs.nil w).snoc (by simp) us t).snoc (by simp) vs u)
theorem bxs3 (w : World) (us vs ws : List Value) (t u x : TypeId) : Bxs w (((w.alloc (.cells us.toArray t)).alloc (.cells vs.toArray u)).alloc (.cells ws.toArray x)) [(us, t), (vs, u), (ws, x)] := (((Bxs.nil w).snoc (by simp) us t).snoc (by simp) vs u).snoc (by simp) ws x
theorem bxs4 (w : World) (us vs ws zs : List Value) (t u x y : TypeId) : Bxs w ((((w.alloc (.cells us.toArray t)).alloc (.cells vs.toArray u)).alloc (.cells ws.toArray x)).alloc (.cells zs.toArray y)) [(us, t), (vs, u), (ws, x), (zs, y)] := ((((Bxs.nil w).snoc (by simp) us t).snoc (by simp) vs u).snoc (by simp) ws x).snoc (by simp) zs y
abbrev snC (tv : Value) (o : Ev) (ov wv kv : Value) : List Value := [tv, .int .i64 o.n, .int .i64 o.t, .int .i64 o.st, .int .i64 o.en, ov, wv, kv]
abbrev snV (tv : Value) (o : Ev) (ov wv kv : Value) : Value := .agg #[tv, .int .i64 o.n, .int .i64 o.t, .int .i64 o.st, .int .i64 o.en, ov, wv, kv]
/-- What a pattern looks at, in memory. -/
structure Scn (w : World) (ts : List Tp) (ws : List Pt) (own : Ev) (kn : List Ev) (tv ov wv kv : Value) : Prop where
  rt : Rd w (.row 72 2 (ts.map encY)) tv
  ro : Rd w (.row 59 3 (own.v.map encV)) ov
  rw : Rd w (.row 65 18 (ws.map encP)) wv
  rk : Rd w (.row 30 5 (kn.map encX)) kv
theorem Scn.later {w W : World} {ts : List Tp} {ws : List Pt} {own : Ev} {kn : List Ev} {tv ov wv kv : Value} (h : Scn w ts ws own kn tv ov wv kv) (hb : Below w.heap.size w W) : Scn W ts ws own kn tv ov wv kv := ⟨h.rt.later hb, h.ro.later hb, h.rw.later hb, h.rk.later hb⟩
/-- Types that may be, an event that may be, and those of whens. -/
structure Sok (ts : List Tp) (ws : List Pt) (own : Ev) (kn : List Ev) : Prop where
  ty : ∀ i (hi : i < ts.length), tyk ts[i].n ts[i].f = 0
  ev : evk ts own = 0
  kn : Kok ts ws kn
set_option maxHeartbeats 8000000 in
theorem eqFld_any (A : List Value) (n nm : ByteArray) (k : Int) (b : Nat) (w : World) (hA : A = [.string n, .int .i64 k]) (h : w.cell? ⟨b, 0, none⟩ = some (.string nm)) : Calls Tryz.prog 157 #[.agg A.toArray, .pointer (some ⟨b, 0, none⟩)] w fun e w' => e = .returned (.bool (seq n nm)) ∧ Below w.heap.size w w' := by
  have hB : BlkT w (w.alloc (.cells A.toArray 93)) A 93 := BlkT.start w _ _
  have c0 : (w.alloc (.cells A.toArray 93)).cell? ⟨w.heap.size, 0, none⟩ = some (.string n) := by rw [hB.c 0, hA]; rfl
  have c4 : (w.alloc (.cells A.toArray 93)).cell? ⟨b, 0, none⟩ = some (.string nm) := (hB.bel.cell (p := ⟨b, 0, none⟩) (World.block_lt_of_cell? _ _ h)).trans h
  have HB := hid hB.bel
  clear hB h hA
  unfold seq
  go_enter Tryz.func157, Tryz.ntmps157
  go_wp2_with fail
  go_ret
  exact ⟨rfl, HB.out⟩
set_option maxHeartbeats 8000000 in
theorem indexFd_any (ws : List Fd) (v : Value) (nm : ByteArray) (b : Nat) (w : World) (h : Rd w (.row 93 2 (ws.map encF)) v) (hn : w.cell? ⟨b, 0, none⟩ = some (.string nm)) :
    Calls Tryz.prog 100 #[v, .func (.func 157) #[] #[.pointer (some ⟨b, 0, none⟩)]] w fun e w' => e = .returned (.int .i64 (fdq ws nm)) ∧ Below w.heap.size w w' := by
  obtain ⟨p, cap, rfl, hmx, hat⟩ := rd_row lenF h
  have HAT : Hid (At encF 2 w p ws) := hat
  obtain ⟨n, hnl⟩ : ∃ n, ws.length = n := ⟨_, rfl⟩
  have HN := hid hnl
  have HNM := hid hn
  rw [hnl] at hmx ⊢
  clear h hat hnl hn
  go_enter Tryz.func100, Tryz.ntmps100
  go_wp2_with fail
  go_loopg [8] (n + 1) (fun gg i wr => ∃ k : Nat, k ≤ n ∧ gg = n + 1 - k ∧ i = .int .i64 (k : Nat) ∧ (∀ (j : Nat) (hj : j < ws.length), j < k → seq ws[j].n nm = false) ∧ Below w.heap.size w wr)
  case atStart => exact ⟨0, by omega, by omega, rfl, fun j _ h => by omega, Below.refl _ _⟩
  case round =>
    obtain ⟨k, hk, rfl, rfl, hno, hB⟩ := hrel
    have HB := hid hB
    by_cases hlt : k < n
    · have hkc : k < ws.length := by have := HN.out; omega
      obtain ⟨g, off, rfl, hrd⟩ := HAT.out (by omega)
      obtain ⟨A, r1, o1⟩ := hrd wr hB k hkc
      have z1 := rdF o1
      have hAz : A.length = 2 := o1.1.symm
      have ZA : Hid ((Tryz.prog.info? 93).map (·.size) = some A.length) := by show _ = _; rw [hAz]; kernel_rfl
      have HCM := hid (eqFld_any A ws[k].n nm ws[k].k b wr z1 ((hB.cell (p := ⟨b, 0, none⟩) (World.block_lt_of_cell? _ _ HNM.out)).trans HNM.out))
      have HNO := hid hno
      obtain ⟨q, hq⟩ : ∃ q, seq ws[k].n nm = q := ⟨_, rfl⟩
      have HQK : Hid (seq ws[k].n nm = q) := hq
      rw [hq] at HCM
      have X1_ := hid r1
      have i1 : (0 : Int) ≤ (k : Int) := by omega
      have i2 : (k : Int) < (n : Int) := by omega
      clear hno hB hrd o1 z1 r1 hq hAz
      cases q with
      | true =>
        go_wp2_with (first
          | ((with_reducible show wpList _ _ _ (Oper.mk _ (.load _ _) _ _ _ _ :: _) _ _); refine wpList_load_mid (by rfl) 93 _ (by rfl) g (off + k * 2) (by rfl) A _ X1_.out Tryz.underlying93 rfl ZA.out ?_)
          | (go_at_call 157; refine HCM.out.mono ?_; rintro e w2 ⟨rfl, hb2⟩; have HB2 := hid (below_trans HB.out hb2 HB.out.size); clear hb2))
        go_ret
        exact ⟨ret_int (by show (k : Int) = ixq _ _ _; rw [ixq_hit (q := fun t : Fd => seq t.n nm) ws 0 k hkc (fun j hj => HNO.out j (by omega) hj) (by exact HQK.out)]; simp), HB2.out⟩
      | false =>
        go_wp2_with (first
          | ((with_reducible show wpList _ _ _ (Oper.mk _ (.load _ _) _ _ _ _ :: _) _ _); refine wpList_load_mid (by rfl) 93 _ (by rfl) g (off + k * 2) (by rfl) A _ X1_.out Tryz.underlying93 rfl ZA.out ?_)
          | (go_at_call 157; refine HCM.out.mono ?_; rintro e w2 ⟨rfl, hb2⟩; have HB2 := hid (below_trans HB.out hb2 HB.out.size); clear hb2))
        go_roundg (n + 1 - (k + 1))
        case rel =>
          refine ⟨k + 1, by omega, rfl, by go_num, fun j hj hjk => ?_, HB2.out⟩
          by_cases c : j < k
          · exact HNO.out j hj c
          · obtain rfl : j = k := by omega
            exact HQK.out
        case measure => omega
    · obtain rfl : k = n := by omega
      have HR := hid (show fdq ws nm = -1 from ixq_none _ _ (fun x hx => by
        obtain ⟨j, hj, rfl⟩ := List.getElem_of_mem hx
        exact hno j hj (by have := HN.out; omega)))
      clear hno hB
      go_wp2_with fail
      go_ret
      exact ⟨ret_int HR.out.symm, HB.out⟩
set_option maxHeartbeats 16000000 in
theorem field_s (ts : List Tp) (ws : List Pt) (own : Ev) (kn : List Ev) (tv ov wv kv : Value) (hty : ∀ i (hi : i < ts.length), tyk ts[i].n ts[i].f = 0) (x : Ev) (u : Value) (nm : ByteArray) (w : World) (hs : Scn w ts ws own kn tv ov wv kv) (hu : Rd w (.row 59 3 (x.v.map encV)) u) (hx : evk ts x = 0) (hf : 0 ≤ fdq (ts.getD x.t.toNat dT).f nm) :
    Calls Tryz.prog 146 #[snV tv own ov wv kv, evV x u, .string nm] w fun e w' => e = .returned (V4.vV (fvl ts x nm)) ∧ Below w.heap.size w w' := by
  obtain ⟨i, hi, e1, e1a, e1b⟩ := evk_ok hx
  obtain ⟨k, hk, e4, e5, e5a, e5b⟩ := fvl_ok hx hf
  clear e1a e1b e5a e5b
  have et : ts.getD x.t.toNat dT = ts[i] := by rw [e1, Int.toNat_natCast]; exact getD_lt hi _
  rw [et] at e4
  rw [e5]
  obtain ⟨tp, tn, tc, htv⟩ := rd_shape hs.rt
  obtain ⟨op, on2, oc, hov⟩ := rd_shape hs.ro
  obtain ⟨wp, wn, wc, hwv⟩ := rd_shape hs.rw
  obtain ⟨kp, kn2, kc, hkv⟩ := rd_shape hs.rk
  have hT := hs.rt
  subst htv hov hwv hkv
  obtain ⟨tp', tc', e0, m1, hat⟩ := rd_row lenY hT
  clear m1
  simp only [Value.slice.injEq] at e0
  obtain ⟨e01, e02, e03⟩ := e0
  obtain ⟨g, off, e06, hrd⟩ := hat (by omega)
  obtain ⟨up', uc', e10, m2, hau⟩ := rd_row lenV hu
  clear m2
  obtain ⟨up, un, uc, eu⟩ := rd_shape hu
  rw [eu] at e10
  simp only [Value.slice.injEq] at e10
  obtain ⟨e11, e12, e13⟩ := e10
  obtain ⟨g2, off2, e16, hrv⟩ := hau (by omega)
  subst eu
  obtain rfl : tp = some ⟨g, off, none⟩ := e01.trans e06
  obtain rfl : up = some ⟨g2, off2, none⟩ := e11.trans e16
  obtain ⟨xn, xt, xs, xe, xv⟩ := x
  obtain ⟨on, ot, ost, oen, ovl⟩ := own
  simp only at e1 hk e5 hrv e12 ⊢
  subst e1
  have hB : Bxs w ((((w.alloc (.cells #[.slice (some ⟨g, off, none⟩) tn tc, .int .i64 on, .int .i64 ot, .int .i64 ost, .int .i64 oen, .slice op on2 oc, .slice wp wn wc, .slice kp kn2 kc] 55)).alloc (.cells #[.int .i64 xn, .int .i64 (i : Nat), .int .i64 xs, .int .i64 xe, .slice (some ⟨g2, off2, none⟩) un uc] 30)).alloc (.cells #[.string nm] 9)).alloc (.cells #[.int .i64 0, .int .i64 0, .string ⟨#[]⟩] 59)) [([.slice (some ⟨g, off, none⟩) tn tc, .int .i64 on, .int .i64 ot, .int .i64 ost, .int .i64 oen, .slice op on2 oc, .slice wp wn wc, .slice kp kn2 kc], 55), ([.int .i64 xn, .int .i64 (i : Nat), .int .i64 xs, .int .i64 xe, .slice (some ⟨g2, off2, none⟩) un uc], 30), ([.string nm], 9), ([.int .i64 0, .int .i64 0, .string ⟨#[]⟩], 59)] := bxs4 w _ _ _ _ _ _ _ _
  obtain ⟨A, r1, o1⟩ := hrd _ hB.bel i hi
  obtain ⟨fv, z1, o2⟩ := rdY o1
  rw [z1] at r1
  have t0 : ((((w.alloc (.cells #[.slice (some ⟨g, off, none⟩) tn tc, .int .i64 on, .int .i64 ot, .int .i64 ost, .int .i64 oen, .slice op on2 oc, .slice wp wn wc, .slice kp kn2 kc] 55)).alloc (.cells #[.int .i64 xn, .int .i64 (i : Nat), .int .i64 xs, .int .i64 xe, .slice (some ⟨g2, off2, none⟩) un uc] 30)).alloc (.cells #[.string nm] 9)).alloc (.cells #[.int .i64 0, .int .i64 0, .string ⟨#[]⟩] 59)).cell? ⟨g, off + i * 2, none⟩ = some (.string ts[i].n) := by simpa using r1 0 _ rfl
  have t1 : ((((w.alloc (.cells #[.slice (some ⟨g, off, none⟩) tn tc, .int .i64 on, .int .i64 ot, .int .i64 ost, .int .i64 oen, .slice op on2 oc, .slice wp wn wc, .slice kp kn2 kc] 55)).alloc (.cells #[.int .i64 xn, .int .i64 (i : Nat), .int .i64 xs, .int .i64 xe, .slice (some ⟨g2, off2, none⟩) un uc] 30)).alloc (.cells #[.string nm] 9)).alloc (.cells #[.int .i64 0, .int .i64 0, .string ⟨#[]⟩] 59)).cell? ⟨g, off + i * 2 + 1, none⟩ = some fv := r1 1 _ rfl
  have hVF := indexFd_any ts[i].f fv nm (w.heap.size + 2) _ o2 (hB.c 2 (by simp) 0)
  rw [e4] at hVF
  have HVF := hid hVF
  have HRV := hid (fun W (hW : Below w.heap.size w W) => hrv W hW k hk)
  have HB := hid hB
  obtain ⟨fp, fl, fc, rfl⟩ := rd_shape o2
  obtain ⟨tnm, htnm⟩ : ∃ n, ts[i].n = n := ⟨_, rfl⟩
  rw [htnm] at t0
  obtain ⟨⟨vk, vn, vs⟩, hv⟩ : ∃ v, xv[k] = v := ⟨_, rfl⟩
  rw [hv] at HRV ⊢
  have i1 : (0 : Int) ≤ (i : Int) := by omega
  have i2 : (i : Int) < (tn : Int) := by omega
  have i3 : (0 : Int) ≤ (k : Int) := by omega
  have i4 : (k : Int) < (un : Int) := by omega
  clear hs hu hx hf hty e4 e5 et hT hat hrd hau hrv e01 e02 e03 e06 e11 e12 e13 e16 hB hVF r1 o1 o2 z1 htnm hv hi hk
  go_enter Tryz.func146, Tryz.ntmps146
  go_wp2_with fail
  refine HVF.out.mono ?_
  rintro e w1 ⟨rfl, hb1⟩
  have HB1 := hid (HB.out.next hb1)
  clear hb1 t0 t1 HVF
  obtain ⟨B, r2, o2⟩ := HRV.out w1 HB1.out.bel
  have z2 := rdV o2
  rw [z2] at r2
  have c4 : w1.cell? ⟨w.heap.size + 1, 4, none⟩ = some (.slice (some ⟨g2, off2, none⟩) un uc) := HB1.out.c 1 (by simp) 4
  have X2 := hid r2
  have HZ := hid (HB1.out.b 3 (by simp))
  clear r2 o2 z2 HRV
  go_wp2_with (first
    | ((with_reducible show wpList _ _ _ (Oper.mk _ (.load 59 _) _ _ _ _ :: _) _ _); refine wpList_load_mid (by rfl) 59 _ (by rfl) g2 (off2 + k * 3) (by rfl) [.int .i64 vk, .int .i64 vn, .string vs] _ X2.out Tryz.underlying59 rfl (by kernel_rfl) ?_)
    | ((with_reducible show wpList _ _ _ (Oper.mk _ (.store _ _ _) _ _ _ _ :: _) _ _); refine wp_st (by rfl) 59 _ _ (by rfl) (w.heap.size + 3) 0 _ 59 (.agg #[.int .i64 vk, .int .i64 vn, .string vs]) [.int .i64 vk, .int .i64 vn, .string vs] (by rfl) (by rfl) (by rfl) HZ.out (by simp) (by kernel_rfl) (by rfl) ?_; intro w2 hblk hfr; have HW2 := hid hblk; have HBE : Hid (Below w.heap.size w w2) := below_fr HB1.out.bel hfr (by omega); clear hblk hfr))
  exact ret_loc (w.heap.size + 3) [.int .i64 vk, .int .i64 vn, .string vs] 59 _ HW2.out rfl rfl (by rfl) Tryz.underlying59 rfl (by kernel_rfl) ⟨rfl, HBE.out⟩
set_option maxHeartbeats 8000000 in
theorem eqVar_any (A : List Value) (va nm : ByteArray) (b : Nat) (w : World) (hA : A[0]? = some (.string va)) (h : w.cell? ⟨b, 4, none⟩ = some (.string nm)) (hz : A.length = 18) (ho : A.all (·.oneCell') = true) : Calls Tryz.prog 147 #[.agg A.toArray, .pointer (some ⟨b, 0, none⟩)] w fun e w' => e = .returned (.bool (seq va nm)) ∧ Below w.heap.size w w' := by
  have hB : BlkT w (w.alloc (.cells A.toArray 65)) A 65 := BlkT.start w _ _
  have c0 : (w.alloc (.cells A.toArray 65)).cell? ⟨w.heap.size, 0, none⟩ = some (.string va) := by rw [hB.c 0]; exact hA
  have c4 : (w.alloc (.cells A.toArray 65)).cell? ⟨b, 4, none⟩ = some (.string nm) := (hB.bel.cell (p := ⟨b, 4, none⟩) (World.block_lt_of_cell? _ _ h)).trans h
  have HB := hid hB.bel
  clear hB h hA hz ho
  unfold seq
  go_enter Tryz.func147, Tryz.ntmps147
  go_wp2_with fail
  go_ret
  exact ⟨rfl, HB.out⟩
set_option maxHeartbeats 8000000 in
theorem indexPat_any (ws : List Pt) (v : Value) (nm : ByteArray) (b : Nat) (w : World) (h : Rd w (.row 65 18 (ws.map encP)) v) (hn : w.cell? ⟨b, 4, none⟩ = some (.string nm)) :
    Calls Tryz.prog 82 #[v, .func (.func 147) #[] #[.pointer (some ⟨b, 0, none⟩)]] w fun e w' => e = .returned (.int .i64 (ptq ws nm)) ∧ Below w.heap.size w w' := by
  obtain ⟨p, cap, rfl, hmx, hat⟩ := rd_row lenP h
  have HAT : Hid (At encP 18 w p ws) := hat
  obtain ⟨n, hnl⟩ : ∃ n, ws.length = n := ⟨_, rfl⟩
  have HN := hid hnl
  have HNM := hid hn
  rw [hnl] at hmx ⊢
  clear h hat hnl hn
  go_enter Tryz.func82, Tryz.ntmps82
  go_wp2_with fail
  go_loopg [8] (n + 1) (fun gg i wr => ∃ k : Nat, k ≤ n ∧ gg = n + 1 - k ∧ i = .int .i64 (k : Nat) ∧ (∀ (j : Nat) (hj : j < ws.length), j < k → seq ws[j].va nm = false) ∧ Below w.heap.size w wr)
  case atStart => exact ⟨0, by omega, by omega, rfl, fun j _ h => by omega, Below.refl _ _⟩
  case round =>
    obtain ⟨k, hk, rfl, rfl, hno, hB⟩ := hrel
    have HB := hid hB
    by_cases hlt : k < n
    · have hkc : k < ws.length := by have := HN.out; omega
      obtain ⟨g, off, rfl, hrd⟩ := HAT.out (by omega)
      obtain ⟨A, r1, o1⟩ := hrd wr hB k hkc
      obtain ⟨vc, z1, o2⟩ := rdP o1
      obtain ⟨up, un, uc, hu⟩ := rd_shape o2
      have hAz : A.length = 18 := o1.1.symm
      have hAO : A.all (·.oneCell') = true := by rw [z1, hu]; rfl
      have ZA : Hid ((Tryz.prog.info? 65).map (·.size) = some A.length) := by show _ = _; rw [hAz]; kernel_rfl
      have HCM := hid (eqVar_any A ws[k].va nm b wr (by rw [z1]; rfl) ((hB.cell (p := ⟨b, 4, none⟩) (World.block_lt_of_cell? _ _ HNM.out)).trans HNM.out) hAz hAO)
      have HNO := hid hno
      obtain ⟨q, hq⟩ : ∃ q, seq ws[k].va nm = q := ⟨_, rfl⟩
      have HQK : Hid (seq ws[k].va nm = q) := hq
      rw [hq] at HCM
      have X1_ := hid r1
      have i1 : (0 : Int) ≤ (k : Int) := by omega
      have i2 : (k : Int) < (n : Int) := by omega
      clear hno hB hrd o1 o2 z1 r1 hq hu hAz hAO
      cases q with
      | true =>
        go_wp2_with (first
          | ((with_reducible show wpList _ _ _ (Oper.mk _ (.load _ _) _ _ _ _ :: _) _ _); refine wpList_load_mid (by rfl) 65 _ (by rfl) g (off + k * 18) (by rfl) A _ X1_.out Tryz.underlying65 rfl ZA.out ?_)
          | (go_at_call 147; refine HCM.out.mono ?_; rintro e w2 ⟨rfl, hb2⟩; have HB2 := hid (below_trans HB.out hb2 HB.out.size); clear hb2))
        go_ret
        exact ⟨ret_int (by show (k : Int) = ixq _ _ _; rw [ixq_hit (q := fun t : Pt => seq t.va nm) ws 0 k hkc (fun j hj => HNO.out j (by omega) hj) (by exact HQK.out)]; simp), HB2.out⟩
      | false =>
        go_wp2_with (first
          | ((with_reducible show wpList _ _ _ (Oper.mk _ (.load _ _) _ _ _ _ :: _) _ _); refine wpList_load_mid (by rfl) 65 _ (by rfl) g (off + k * 18) (by rfl) A _ X1_.out Tryz.underlying65 rfl ZA.out ?_)
          | (go_at_call 147; refine HCM.out.mono ?_; rintro e w2 ⟨rfl, hb2⟩; have HB2 := hid (below_trans HB.out hb2 HB.out.size); clear hb2))
        go_roundg (n + 1 - (k + 1))
        case rel =>
          refine ⟨k + 1, by omega, rfl, by go_num, fun j hj hjk => ?_, HB2.out⟩
          by_cases c : j < k
          · exact HNO.out j hj c
          · obtain rfl : j = k := by omega
            exact HQK.out
        case measure => omega
    · obtain rfl : k = n := by omega
      have HR := hid (show ptq ws nm = -1 from ixq_none _ _ (fun x hx => by
        obtain ⟨j, hj, rfl⟩ := List.getElem_of_mem hx
        exact hno j hj (by have := HN.out; omega)))
      clear hno hB
      go_wp2_with fail
      go_ret
      exact ⟨ret_int HR.out.symm, HB.out⟩
set_option maxHeartbeats 16000000 in
theorem side_own (ts : List Tp) (ws : List Pt) (own : Ev) (kn : List Ev) (tv ov wv kv : Value) (hk : Sok ts ws own kn) (o : Opd) (w : World) (hs : Scn w ts ws own kn tv ov wv kv) (ho : o.k = 2) (hf : 0 ≤ fdq (ts.getD own.t.toNat dT).f o.fd) :
    Calls Tryz.prog 119 #[snV tv own ov wv kv, opV o] w fun e w' => e = .returned (V4.vV (fvl ts own o.fd)) ∧ Below w.heap.size w w' := by
  have HFS := hid (fun W (hW : Below w.heap.size w W) => field_s ts ws own kn tv ov wv kv hk.ty own ov o.fd W (hs.later hW) (hs.later hW).ro hk.ev hf)
  obtain ⟨⟨vk, vn, vs⟩, hv⟩ : ∃ v, fvl ts own o.fd = v := ⟨_, rfl⟩
  rw [hv] at HFS ⊢
  obtain ⟨tp, tn, tc, htv⟩ := rd_shape hs.rt
  obtain ⟨op, on2, oc, hov⟩ := rd_shape hs.ro
  obtain ⟨wp, wn, wc, hwv⟩ := rd_shape hs.rw
  obtain ⟨kp, kn2, kc, hkv⟩ := rd_shape hs.rk
  have hB := bxs3 w (snC tv own ov wv kv) [.int .i64 o.k, .int .i64 o.vk, .int .i64 o.vi, .string o.vt, .string o.va, .string o.fd] [.int .i64 0, .int .i64 0, .string ⟨#[]⟩] 55 61 59
  subst htv hov hwv hkv
  obtain ⟨on, ot, ost, oen, ovl⟩ := own
  obtain ⟨ok, ovk, ovi, ovt, ova, ofd⟩ := o
  simp only [snC] at hB
  simp only at ho HFS ⊢
  subst ho
  have HB := hid hB
  have XS := hid (hB.r 0 (by simp))
  have XE : Hid ((((w.alloc (.cells #[.slice tp tn tc, .int .i64 on, .int .i64 ot, .int .i64 ost, .int .i64 oen, .slice op on2 oc, .slice wp wn wc, .slice kp kn2 kc] 55)).alloc (.cells #[.int .i64 2, .int .i64 ovk, .int .i64 ovi, .string ovt, .string ova, .string ofd] 61)).alloc (.cells #[.int .i64 0, .int .i64 0, .string ⟨#[]⟩] 59)).rangeAt w.heap.size 1 [.int .i64 on, .int .i64 ot, .int .i64 ost, .int .i64 oen, .slice op on2 oc]) := fun j u hu => by
    have := hB.c 0 (by simp) (1 + j)
    rw [show w.heap.size + 0 = w.heap.size from rfl] at this
    rw [this]
    rcases j with _ | _ | _ | _ | _ | j <;> simp_all
  clear hB hs hk hf hv
  go_enter Tryz.func119, Tryz.ntmps119
  go_wp2_with (first
    | ((with_reducible show wpList _ _ _ (Oper.mk _ (.load _ _) _ _ _ _ :: _) _ _); refine wpList_load_mid (by rfl) 30 _ (by rfl) w.heap.size 1 (by rfl) [.int .i64 on, .int .i64 ot, .int .i64 ost, .int .i64 oen, .slice op on2 oc] _ XE.out Tryz.underlying30 rfl (by kernel_rfl) ?_)
    | ((with_reducible show wpList _ _ _ (Oper.mk _ (.load _ _) _ _ _ _ :: _) _ _); refine wpList_load_mid (by rfl) 55 _ (by rfl) w.heap.size 0 (by rfl) [.slice tp tn tc, .int .i64 on, .int .i64 ot, .int .i64 ost, .int .i64 oen, .slice op on2 oc, .slice wp wn wc, .slice kp kn2 kc] _ XS.out Tryz.underlying55 rfl (by kernel_rfl) ?_))
  refine (HFS.out _ HB.out.bel).mono ?_
  rintro e w1 ⟨rfl, hb1⟩
  have HB1 := hid (HB.out.next hb1)
  have HBB := hid HB1.out.bel
  have HZ := hid (HB1.out.b 2 (by simp))
  clear hb1 XS XE
  go_wp2_with ((with_reducible show wpList _ _ _ (Oper.mk _ (.store _ _ _) _ _ _ _ :: _) _ _); refine wp_st (by rfl) 59 _ _ (by rfl) (w.heap.size + 2) 0 _ 59 (.agg #[.int .i64 vk, .int .i64 vn, .string vs]) [.int .i64 vk, .int .i64 vn, .string vs] (by rfl) (by rfl) (by rfl) HZ.out (by simp) (by kernel_rfl) (by rfl) ?_; intro w2 hblk hfr; have HW2 := hid hblk; have HBE : Hid (Below w.heap.size w w2) := below_fr HBB.out (hfr) (by omega); clear hblk hfr)
  exact ret_loc (w.heap.size + 2) [.int .i64 vk, .int .i64 vn, .string vs] 59 _ HW2.out rfl rfl (by rfl) Tryz.underlying59 rfl (by kernel_rfl) ⟨rfl, HBE.out⟩
set_option maxHeartbeats 16000000 in
theorem side_con (ts : List Tp) (ws : List Pt) (own : Ev) (kn : List Ev) (tv ov wv kv : Value) (hk : Sok ts ws own kn) (o : Opd) (w : World) (hs : Scn w ts ws own kn tv ov wv kv) (ho : o.k ≠ 2) (ho3 : o.k ≠ 3) :
    Calls Tryz.prog 119 #[snV tv own ov wv kv, opV o] w fun e w' => e = .returned (V4.vV ⟨o.vk, o.vi, o.vt⟩) ∧ Below w.heap.size w w' := by
  obtain ⟨tp, tn, tc, htv⟩ := rd_shape hs.rt
  obtain ⟨op, on2, oc, hov⟩ := rd_shape hs.ro
  obtain ⟨wp, wn, wc, hwv⟩ := rd_shape hs.rw
  obtain ⟨kp, kn2, kc, hkv⟩ := rd_shape hs.rk
  have hB := bxs3 w (snC tv own ov wv kv) [.int .i64 o.k, .int .i64 o.vk, .int .i64 o.vi, .string o.vt, .string o.va, .string o.fd] [.int .i64 0, .int .i64 0, .string ⟨#[]⟩] 55 61 59
  subst htv hov hwv hkv
  obtain ⟨on, ot, ost, oen, ovl⟩ := own
  obtain ⟨ok, ovk, ovi, ovt, ova, ofd⟩ := o
  simp only [snC] at hB
  simp only at ho ho3 ⊢
  have d2 : decide (ok = 2) = false := by simpa using ho
  have d3 : decide (ok = 3) = false := by simpa using ho3
  have HB := hid hB
  have HBB := hid hB.bel
  have HZ := hid (hB.b 2 (by simp))
  clear hB hs hk
  go_enter Tryz.func119, Tryz.ntmps119
  go_wp2_with ((with_reducible show wpList _ _ _ (Oper.mk _ (.store _ _ _) _ _ _ _ :: _) _ _); refine wp_st (by rfl) 59 _ _ (by rfl) (w.heap.size + 2) 0 _ 59 (.agg #[.int .i64 ovk, .int .i64 ovi, .string ovt]) [.int .i64 ovk, .int .i64 ovi, .string ovt] (by rfl) (by rfl) (by rfl) HZ.out (by simp) (by kernel_rfl) (by rfl) ?_; intro w2 hblk hfr; have HW2 := hid hblk; have HBE : Hid (Below w.heap.size w w2) := below_fr HBB.out (hfr) (by omega); clear hblk hfr)
  exact ret_loc (w.heap.size + 2) [.int .i64 ovk, .int .i64 ovi, .string ovt] 59 _ HW2.out rfl rfl (by rfl) Tryz.underlying59 rfl (by kernel_rfl) ⟨rfl, HBE.out⟩
theorem ent_fds : ∀ args w, (callFunc 146 args).run Tryz.prog w = .ok (.enter 146 args) w := enters_of Tryz.func146 (by kernel_rfl) rfl
theorem step_sto {P : Program} {ops : Array Oper} {o : Oper} {a : Act} {w : World} {K : Act → World → Prop} {Q : Exit → Act → World → Prop} {E : Prop} (hw : Region.wanted o (yielded ops a.tmps) = true) (ty : TypeId) (x y : Operand) (ho : o.op = .store ty x y)
    (b f : Nat) (cs : List Value) (T : TypeId) (v : Value) (vs : List Value) (hx : a.eval x = .pointer (some ⟨b, f, none⟩)) (hy : a.eval y = v) (hv : v.cells = vs.toArray) (hb : w.heap[b]? = some (.cells cs.toArray T (0, 0)))
    (hl : f + vs.length ≤ cs.length) (hi : (P.info? ty).map (·.size) = some vs.length) (h1 : vs.all (·.oneCell') = true)
    (h : ∀ w', w'.heap[b]? = some (.cells (ovr cs f vs).toArray T (0, 0)) → Fr (fun i => i = b) w w' → K (a.put o.dst undef) w') :
    if Region.wanted o (yielded ops a.tmps) = true then Oper.wp P o a w K Q else E := by
  rw [if_pos hw]
  unfold Oper.wp execOp
  simp only [ho, hx, hy, Instr.storeAt, Instr.sureAddr, Sem.run_bind, Sem.run_pure, Result.andThen_ok, run_st w b f ty v vs.toArray hv (there_blk hb f _ (by simpa using hl)) (by simpa using hi) (all_oneCell_toArray (List.all_eq_true.1 h1))]
  exact h _ (blk_sets vs f cs w hb hl) ((Fr.refl (fun i => i = b) w).setCells (.inl rfl))
set_option maxHeartbeats 32000000 in
theorem side_other (ts : List Tp) (ws : List Pt) (own : Ev) (kn : List Ev) (tv ov wv kv : Value) (hk : Sok ts ws own kn) (o : Opd) (w : World) (hs : Scn w ts ws own kn tv ov wv kv) (ho : o.k = 3) (j : Nat) (hj : j < kn.length) (hp : ptq ws o.va = (j : Int)) (hev : evk ts kn[j] = 0) (hf : 0 ≤ fdq (ts.getD kn[j].t.toNat dT).f o.fd) :
    Calls Tryz.prog 119 #[snV tv own ov wv kv, opV o] w fun e w' => e = .returned (V4.vV (fvl ts kn[j] o.fd)) ∧ Below w.heap.size w w' := by
  obtain ⟨g, off, A, hg, hr, uv, hA, hu⟩ : ∃ g off A, (∃ n c, kv = .slice (some ⟨g, off, none⟩) n c ∧ (j : Int) < (n : Int)) ∧ (∀ W, Below w.heap.size w W → W.rangeAt g (off + j * 5) A) ∧ ∃ uv, A = [.int .i64 kn[j].n, .int .i64 kn[j].t, .int .i64 kn[j].st, .int .i64 kn[j].en, uv] ∧ Rd w (.row 59 3 (kn[j].v.map encV)) uv := by
    obtain ⟨p, cap, rfl, _, hat⟩ := rd_row lenX hs.rk
    obtain ⟨g, off, rfl, hrd⟩ := hat (by omega)
    obtain ⟨A, r1, o1⟩ := hrd w (Below.refl _ _) j hj
    obtain ⟨uv, z1, o2⟩ := rdX o1
    exact ⟨g, off, A, ⟨_, _, rfl, by omega⟩, fun W hW => range_below r1 hW, uv, z1, o2⟩
  have hFS := fun W (hW : Below w.heap.size w W) => field_s ts ws own kn tv ov wv kv hk.ty kn[j] uv o.fd W (hs.later hW) (hu.later hW) hev hf
  have hIX := fun W (hW : Below w.heap.size w W) (hc : W.cell? ⟨w.heap.size + 1, 4, none⟩ = some (.string o.va)) => indexPat_any ws wv o.va (w.heap.size + 1) W (hs.later hW).rw hc
  rw [hp] at hIX
  obtain ⟨⟨vk, vn, vs⟩, hv⟩ : ∃ v, fvl ts kn[j] o.fd = v := ⟨_, rfl⟩
  rw [hv] at hFS ⊢
  have hsh := rd_shape hu
  have hkvs := hg
  obtain ⟨tp, tn, tc, htv⟩ := rd_shape hs.rt
  obtain ⟨op, on2, oc, hov⟩ := rd_shape hs.ro
  obtain ⟨wp, wn, wc, hwv⟩ := rd_shape hs.rw
  obtain ⟨kn2, kc, hkv, hjn⟩ := hkvs
  have hB := bxs3 w (snC tv own ov wv kv) [.int .i64 o.k, .int .i64 o.vk, .int .i64 o.vi, .string o.vt, .string o.va, .string o.fd] [.int .i64 0, .int .i64 0, .string ⟨#[]⟩] 55 61 59
  subst htv hov hwv hkv
  obtain ⟨on, ot, ost, oen, ovl⟩ := own
  obtain ⟨ok, ovk, ovi, ovt, ova, ofd⟩ := o
  simp only [snC] at hB
  simp only at ho hFS hIX ⊢
  subst ho
  obtain ⟨UL, hUL⟩ : ∃ UL : List Value, [.slice tp tn tc, .int .i64 on, .int .i64 ot, .int .i64 ost, .int .i64 oen, .slice op on2 oc, .slice wp wn wc, .slice (some ⟨g, off, none⟩) kn2 kc] = UL := ⟨_, rfl⟩
  have hUz : UL.length = 8 := by rw [← hUL]; rfl
  have hXz : A.length = 5 := by rw [hA]; rfl
  have HFC : Hid (∀ W, Below w.heap.size w W → Calls Tryz.prog 146 #[.agg UL.toArray, .agg A.toArray, .string ofd] W fun e w' => e = .returned (V4.vV ⟨vk, vn, vs⟩) ∧ Below W.heap.size W w') := fun W hW => by rw [hA, ← hUL]; exact hFS W hW
  obtain ⟨XL, hXL⟩ : ∃ XL : List Value, A = XL := ⟨_, rfl⟩
  rw [hXL] at HFC hXz hr
  have HS6 : Hid (∀ W, Below w.heap.size w W → W.heap[w.heap.size]? = some (.cells [.slice tp tn tc, .int .i64 on, .int .i64 ot, .int .i64 ost, .int .i64 oen, .slice op on2 oc, .slice wp wn wc, .slice (some ⟨g, off, none⟩) kn2 kc].toArray 55 (0, 0)) → W.heap[w.heap.size + 1]? = some (.cells [.int .i64 3, .int .i64 ovk, .int .i64 ovi, .string ovt, .string ova, .string ofd].toArray 61 (0, 0)) → (W.rangeAt w.heap.size 0 UL ∧ W.cell? ⟨w.heap.size, 7, none⟩ = some (.slice (some ⟨g, off, none⟩) kn2 kc) ∧ W.rangeAt g (off + j * 5) XL ∧ W.cell? ⟨w.heap.size + 1, 5, none⟩ = some (.string ofd))) := fun W h0 h1 h2 => ⟨by rw [← hUL]; exact range_blk h1, cell_of_blk h1 7, hr W h0, cell_of_blk h2 5⟩
  have ZU : Hid ((Tryz.prog.info? 55).map (·.size) = some UL.length) := by show _ = _; rw [hUz]; kernel_rfl
  have ZX : Hid ((Tryz.prog.info? 30).map (·.size) = some XL.length) := by show _ = _; rw [hXz]; kernel_rfl
  have HIX := hid hIX
  have HB := hid hB
  have y1 : (0 : Int) ≤ (j : Int) := by omega
  have y2 : (j : Int) < (kn2 : Int) := hjn
  clear hB hs hk hf hv hFS hIX hr hA hu hsh hg hev hp hj hUL hUz hXz hXL hjn
  go_enter Tryz.func119, Tryz.ntmps119
  go_wp2_with fail
  refine (HIX.out _ HB.out.bel (HB.out.c 1 (by simp) 4)).mono ?_
  rintro e w4 ⟨rfl, hb4⟩
  have HB2 := hid (HB.out.next hb4)
  have HD2 := hid (HB2.out.next (Below.drew (Below.refl _ _)))
  clear hb4 HIX HB
  go_wp2_with fail
  refine start_n (S := (fun w' => w'.rangeAt w.heap.size 0 UL ∧ w'.cell? ⟨w.heap.size, 7, none⟩ = some (.slice (some ⟨g, off, none⟩) kn2 kc) ∧ w'.rangeAt g (off + j * 5) XL ∧ w'.cell? ⟨w.heap.size + 1, 5, none⟩ = some (.string ofd))) 10 #[false, false, false, false, false, false, false, false, false, false] rfl rfl (by kernel_rfl) (HS6.out _ HD2.out.bel (HD2.out.b 0 (by simp)) (HD2.out.b 1 (by simp))) (fun hHeld => ?_)
  refine take_mk (i := 1) (v := ?v1) rfl (by kernel_rfl) (by kernel_rfl) (by kernel_rfl) (fun _ _ _ h => h) (Or.inl ⟨by rfl, ?hy1⟩) (by assumption) ?rest1
  case hy1 => (intro w0 hSw; (try dsimp only at hSw); go_simp <;> (try (with_reducible rfl)))
  (try simp only [Act.put, List.setIfInBounds_toArray, List.set_cons_zero, List.set_cons_succ])
  refine take_mk (i := 2) (v := ?v2) rfl (by kernel_rfl) (by kernel_rfl) (by kernel_rfl) (fun _ _ _ h => h) (Or.inl ⟨by rfl, ?hy2⟩) (by assumption) ?rest2
  case hy2 => (intro w0 hSw; (try dsimp only at hSw); go_simp <;> (try (with_reducible rfl)))
  (try simp only [Act.put, List.setIfInBounds_toArray, List.set_cons_zero, List.set_cons_succ])
  refine take_mk (i := 3) (v := ?v3) rfl (by kernel_rfl) (by kernel_rfl) (by kernel_rfl) (fun _ _ _ h => h) (Or.inl ⟨by rfl, ?hy3⟩) (by assumption) ?rest3
  case hy3 => (intro w0 hSw; (try dsimp only at hSw); go_simp <;> (try (with_reducible rfl)))
  (try simp only [Act.put, List.setIfInBounds_toArray, List.set_cons_zero, List.set_cons_succ])
  refine take_mk (i := 4) (v := ?v4) rfl (by kernel_rfl) (by kernel_rfl) (by kernel_rfl) (fun _ _ _ h => h) (Or.inl ⟨by rfl, ?hy4⟩) (by assumption) ?rest4
  case hy4 => (intro w0 hSw; (try dsimp only at hSw); go_simp <;> (try (with_reducible rfl)))
  (try simp only [Act.put, List.setIfInBounds_toArray, List.set_cons_zero, List.set_cons_succ])
  refine take_mk (i := 6) (v := ?v5) rfl (by kernel_rfl) (by kernel_rfl) (by kernel_rfl) (fun _ _ _ h => h) (Or.inl ⟨by rfl, ?hy5⟩) (by assumption) ?rest5
  case hy5 => (intro w0 hSw; (try dsimp only at hSw); go_simp <;> (try (with_reducible rfl)))
  (try simp only [Act.put, List.setIfInBounds_toArray, List.set_cons_zero, List.set_cons_succ])
  refine take_mk (i := 7) (v := ?v6) rfl (by kernel_rfl) (by kernel_rfl) (by kernel_rfl) (fun _ _ _ h => h) (Or.inl ⟨by rfl, ?hy6⟩) (by assumption) ?rest6
  case hy6 => (intro w0 hSw; (try dsimp only at hSw); go_simp <;> (try (with_reducible rfl)))
  (try simp only [Act.put, List.setIfInBounds_toArray, List.set_cons_zero, List.set_cons_succ])
  refine take_mk (i := 0) rfl (by kernel_rfl) (by kernel_rfl) (by kernel_rfl) (fun _ _ _ h => h) (yieldsIf_load_mid (by rfl) 55 _ rfl w.heap.size (0) (by rfl) UL _ (fun _ h => h.1) Tryz.underlying55 rfl ZU.out) (by assumption) ?_
  (try simp only [Act.put, List.setIfInBounds_toArray, List.set_cons_zero, List.set_cons_succ])
  refine take_mk (i := 5) rfl (by kernel_rfl) (by kernel_rfl) (by kernel_rfl) (fun _ _ _ h => h) (yieldsIf_load_mid (by rfl) 30 _ rfl g (off + j * 5) (by rfl) XL _ (fun _ h => h.2.2.1) Tryz.underlying30 rfl ZX.out) (by assumption) ?_
  (try simp only [Act.put, List.setIfInBounds_toArray, List.set_cons_zero, List.set_cons_succ])
  refine wpAnyH_ready (rs := [8]) (by kernel_rfl) (by simp) ?_
  refine cons_mk rfl (fun K hK => ?_) AllReadyH.nil
  refine step_call3 146 ent_fds (by rfl) _ _ _ _ (by rfl) (.agg UL.toArray) (.agg XL.toArray) (.string ofd) (by rfl) (by rfl) (by rfl) _ (HFC.out _ HD2.out.bel) ?_
  rintro e w5 ⟨rfl, hb5⟩
  refine ⟨_, rfl, ?_⟩
  have HB5 := hid (HD2.out.next hb5)
  clear hb5
  refine hK.out _ _ (HS6.out _ HB5.out.bel (HB5.out.b 0 (by simp)) (HB5.out.b 1 (by simp))) (fun hHeld => ?_)
  clear hK K
  (try simp only [Act.put, List.setIfInBounds_toArray, List.set_cons_zero, List.set_cons_succ])
  refine wpAnyH_ready (rs := [9]) (by kernel_rfl) (by simp) ?_
  refine cons_mk rfl (fun K hK => ?_) AllReadyH.nil
  refine step_sto (by rfl) 59 _ _ (by rfl) (w.heap.size + 2) 0 _ 59 (.agg #[.int .i64 vk, .int .i64 vn, .string vs]) [.int .i64 vk, .int .i64 vn, .string vs] (by rfl) (by rfl) (by rfl) (HB5.out.b 2 (by simp)) (by simp) (by kernel_rfl) (by rfl) ?_
  intro w6 hm6 hf6
  have HW2 := hid hm6
  have HBE : Hid (Below w.heap.size w w6) := below_fr HB5.out.bel hf6 (by omega)
  have HF6 := hid hf6
  clear hm6 hf6
  refine hK.out _ _ (HS6.out _ HBE.out ((HF6.out.block _ (blk_lt (HB5.out.b 0 (by simp))) (by omega)).trans (HB5.out.b 0 (by simp))) ((HF6.out.block _ (blk_lt (HB5.out.b 1 (by simp))) (by omega)).trans (HB5.out.b 1 (by simp)))) (fun hHeld => ?_)
  clear hK K
  (try simp only [Act.put, List.setIfInBounds_toArray, List.set_cons_zero, List.set_cons_succ])
  refine wpAnyH_done (by kernel_rfl) ?_ _
  go_wp2_with fail
  exact ret_loc (w.heap.size + 2) [.int .i64 vk, .int .i64 vn, .string vs] 59 _ HW2.out rfl rfl (by rfl) Tryz.underlying59 rfl (by kernel_rfl) ⟨rfl, HBE.out⟩
theorem side_s (ts : List Tp) (ws : List Pt) (own : Ev) (kn : List Ev) (tv ov wv kv : Value) (hk : Sok ts ws own kn) (o : Opd) (w : World) (hs : Scn w ts ws own kn tv ov wv kv) (ho : (sdk ts ws (ts.getD own.t.toNat dT) o).2 = 0) :
    Calls Tryz.prog 119 #[snV tv own ov wv kv, opV o] w fun e w' => e = .returned (V4.vV (svl ts ws own kn o)) ∧ Below w.heap.size w w' := by
  have ho' := ho
  unfold sdk at ho
  by_cases h0 : 1 ≤ o.k ∧ o.k ≤ 3
  · rw [if_neg (fun c => c h0)] at ho
    by_cases h1 : o.k = 1
    · have e : svl ts ws own kn o = ⟨o.vk, o.vi, o.vt⟩ := by unfold svl; rw [if_neg (by omega), if_neg (by omega)]
      rw [e]
      exact side_con ts ws own kn tv ov wv kv hk o w hs (by omega) (by omega)
    · rw [if_neg h1] at ho
      by_cases h2 : o.k = 2
      · rw [if_pos h2] at ho
        have e : svl ts ws own kn o = fvl ts own o.fd := by unfold svl; rw [if_pos h2]
        rw [e]
        split at ho
        · simp at ho
        · refine side_own ts ws own kn tv ov wv kv hk o w hs h2 ?_
          unfold fck at ho
          split at ho
          · simp at ho
          · omega
      · rw [if_neg h2] at ho
        split at ho
        · simp at ho
        · rename_i c1
          split at ho
          · simp at ho
          · obtain ⟨j, hj, e1, _⟩ := ixq_ex (q := fun p : Pt => seq p.va o.va) (l := ws) (by show 0 ≤ ptq ws o.va; omega)
            have e1' : ptq ws o.va = (j : Int) := e1
            have hjk : j < kn.length := by rw [hk.kn.1]; exact hj
            obtain ⟨g1, g2⟩ := hk.kn.2 j hjk hj
            have et : tyOf ts ws o.va = ts.getD kn[j].t.toNat dT := by
              unfold tyOf
              rw [e1', Int.toNat_natCast, getD_lt hj, g2]
              rfl
            have es : svl ts ws own kn o = fvl ts kn[j] o.fd := by
              unfold svl
              rw [if_neg h2, if_pos (by omega), e1', Int.toNat_natCast, getD_lt hjk]
            rw [es]
            rw [et] at ho
            refine side_other ts ws own kn tv ov wv kv hk o w hs (by omega) j hjk e1' g1 ?_
            unfold fck at ho
            split at ho
            · simp at ho
            · omega
  · rw [if_pos h0] at ho; simp at ho
end Go.Proofs.YthndlfdbmljkhaaGreatDoor.Chk
namespace Go.Proofs.YthndlfdbmljkhaaGreatDoor.Chk
open Go.ChangeShapes Go.WideShapes Go.ChangeAt Go.RowKit Go.Maps
set_option linter.unusedVariables false
set_option linter.unusedSimpArgs false
set_option maxRecDepth 20000
theorem ent_side : ∀ args w, (callFunc 119 args).run Tryz.prog w = .ok (.enter 119 args) w := enters_of Tryz.func119 (by kernel_rfl) rfl
theorem ent_cmpr : ∀ args w, (callFunc 118 args).run Tryz.prog w = .ok (.enter 118 args) w := enters_of Tryz.func118 (by kernel_rfl) rfl
theorem ent_fails : ∀ args w, (callFunc 68 args).run Tryz.prog w = .ok (.enter 68 args) w := enters_of Tryz.func68 (by kernel_rfl) rfl
set_option maxHeartbeats 32000000 in
theorem compares_s (ts : List Tp) (ws : List Pt) (own : Ev) (kn : List Ev) (tv ov wv kv : Value) (hk : Sok ts ws own kn) (c : Cn) (cv : Value) (w : World) (hs : Scn w ts ws own kn tv ov wv kv) (hcs : ∃ p n m, cv = .slice p n m) (h4 : 4 ≤ c.k) (h7 : c.k ≤ 7) (hl : (sdk ts ws (ts.getD own.t.toNat dT) c.l).2 = 0) (hr : (sdk ts ws (ts.getD own.t.toNat dT) c.r).2 = 0) (hlr : (sdk ts ws (ts.getD own.t.toNat dT) c.l).1 = (sdk ts ws (ts.getD own.t.toNat dT) c.r).1) :
    Calls Tryz.prog 69 #[snV tv own ov wv kv, cnV c.k cv c.l c.r] w fun e w' => e = .returned (.bool (cmb c.k (V4.ord (svl ts ws own kn c.l) (svl ts ws own kn c.r)))) ∧ Below w.heap.size w w' := by
  have hSL := fun W (hW : Below w.heap.size w W) => side_s ts ws own kn tv ov wv kv hk c.l W (hs.later hW) hl
  have hSR := fun W (hW : Below w.heap.size w W) => side_s ts ws own kn tv ov wv kv hk c.r W (hs.later hW) hr
  obtain ⟨a1, a2⟩ := svl_ok hl hk.ev hk.kn
  obtain ⟨b1, b2⟩ := svl_ok hr hk.ev hk.kn
  have hCP := fun W => V4.compare_any (svl ts ws own kn c.l) (svl ts ws own kn c.r) W
  have e1 : V4.cmpE (svl ts ws own kn c.l) (svl ts ws own kn c.r) = 0 := by
    unfold V4.cmpE
    rw [if_neg (fun x => x a1), if_neg (fun x => x b1), if_neg (fun x => x (by rw [a2, b2]; exact hlr))]
  have e2 : V4.cmpV (svl ts ws own kn c.l) (svl ts ws own kn c.r) = V4.ord (svl ts ws own kn c.l) (svl ts ws own kn c.r) := by
    unfold V4.cmpV
    rw [if_neg (fun x => x e1)]
  rw [e1, e2] at hCP
  obtain ⟨N, hN⟩ : ∃ N, V4.ord (svl ts ws own kn c.l) (svl ts ws own kn c.r) = N := ⟨_, rfl⟩
  rw [hN] at hCP ⊢
  obtain ⟨⟨ak, an, as_⟩, hva⟩ : ∃ v, svl ts ws own kn c.l = v := ⟨_, rfl⟩
  obtain ⟨⟨bk, bn, bs⟩, hvb⟩ : ∃ v, svl ts ws own kn c.r = v := ⟨_, rfl⟩
  rw [hva] at hSL hCP
  rw [hvb] at hSR hCP
  clear a1 a2 b1 b2 e1 e2 hN hva hvb hl hr hlr
  obtain ⟨cp, cn, cc, hcv⟩ := hcs
  obtain ⟨tp, tn, tc, htv⟩ := rd_shape hs.rt
  obtain ⟨op, on2, oc, hov⟩ := rd_shape hs.ro
  obtain ⟨wp, wn, wc, hwv⟩ := rd_shape hs.rw
  obtain ⟨kp, kn2, kc, hkv⟩ := rd_shape hs.rk
  subst htv hov hwv hkv hcv
  obtain ⟨on, ot, ost, oen, ovl⟩ := own
  obtain ⟨ck, csb, ⟨lk, lvk, lvi, lvt, lva, lfd⟩, ⟨rk, rvk, rvi, rvt, rva, rfd⟩⟩ := c
  have hB : Bxs w ((w.alloc (.cells #[.slice tp tn tc, .int .i64 on, .int .i64 ot, .int .i64 ost, .int .i64 oen, .slice op on2 oc, .slice wp wn wc, .slice kp kn2 kc] 55)).alloc (.cells #[.int .i64 ck, .slice cp cn cc, .int .i64 lk, .int .i64 lvk, .int .i64 lvi, .string lvt, .string lva, .string lfd, .int .i64 rk, .int .i64 rvk, .int .i64 rvi, .string rvt, .string rva, .string rfd] 63)) [([.slice tp tn tc, .int .i64 on, .int .i64 ot, .int .i64 ost, .int .i64 oen, .slice op on2 oc, .slice wp wn wc, .slice kp kn2 kc], 55), ([.int .i64 ck, .slice cp cn cc, .int .i64 lk, .int .i64 lvk, .int .i64 lvi, .string lvt, .string lva, .string lfd, .int .i64 rk, .int .i64 rvk, .int .i64 rvi, .string rvt, .string rva, .string rfd], 63)] := bxs2 w _ _ _ _
  simp only at h4 h7 hSL hSR ⊢
  obtain ⟨UL, hUL⟩ : ∃ UL : List Value, [.slice tp tn tc, .int .i64 on, .int .i64 ot, .int .i64 ost, .int .i64 oen, .slice op on2 oc, .slice wp wn wc, .slice kp kn2 kc] = UL := ⟨_, rfl⟩
  obtain ⟨LL, hLL⟩ : ∃ LL : List Value, [.int .i64 lk, .int .i64 lvk, .int .i64 lvi, .string lvt, .string lva, .string lfd] = LL := ⟨_, rfl⟩
  obtain ⟨RL, hRL⟩ : ∃ RL : List Value, [.int .i64 rk, .int .i64 rvk, .int .i64 rvi, .string rvt, .string rva, .string rfd] = RL := ⟨_, rfl⟩
  have HSL : Hid (∀ W, Below w.heap.size w W → Calls Tryz.prog 119 #[.agg UL.toArray, .agg LL.toArray] W fun e w' => e = .returned (V4.vV ⟨ak, an, as_⟩) ∧ Below W.heap.size W w') := fun W hW => by rw [← hUL, ← hLL]; exact hSL W hW
  have HSR : Hid (∀ W, Below w.heap.size w W → Calls Tryz.prog 119 #[.agg UL.toArray, .agg RL.toArray] W fun e w' => e = .returned (V4.vV ⟨bk, bn, bs⟩) ∧ Below W.heap.size W w') := fun W hW => by rw [← hUL, ← hRL]; exact hSR W hW
  have HCP := hid hCP
  have HS : Hid (∀ W, Bxs w W [([.slice tp tn tc, .int .i64 on, .int .i64 ot, .int .i64 ost, .int .i64 oen, .slice op on2 oc, .slice wp wn wc, .slice kp kn2 kc], 55), ([.int .i64 ck, .slice cp cn cc, .int .i64 lk, .int .i64 lvk, .int .i64 lvi, .string lvt, .string lva, .string lfd, .int .i64 rk, .int .i64 rvk, .int .i64 rvi, .string rvt, .string rva, .string rfd], 63)] → (W.rangeAt w.heap.size 0 UL ∧ W.rangeAt (w.heap.size + 1) 2 LL ∧ W.rangeAt (w.heap.size + 1) 8 RL)) := fun W h => ⟨by rw [← hUL]; exact h.r 0 (by simp), by rw [← hLL]; exact range_in (h.b 1 (by simp)) (C := [.int .i64 ck, .slice cp cn cc]) (B := [.int .i64 lk, .int .i64 lvk, .int .i64 lvi, .string lvt, .string lva, .string lfd] ++ [.int .i64 rk, .int .i64 rvk, .int .i64 rvi, .string rvt, .string rva, .string rfd]) rfl rfl 6, by rw [← hRL]; exact range_in (h.b 1 (by simp)) (C := [.int .i64 ck, .slice cp cn cc] ++ [.int .i64 lk, .int .i64 lvk, .int .i64 lvi, .string lvt, .string lva, .string lfd]) (B := [.int .i64 rk, .int .i64 rvk, .int .i64 rvi, .string rvt, .string rva, .string rfd]) rfl rfl 6⟩
  have ZU : Hid ((Tryz.prog.info? 55).map (·.size) = some UL.length) := by show _ = _; rw [← hUL]; kernel_rfl
  have ZL : Hid ((Tryz.prog.info? 61).map (·.size) = some LL.length) := by show _ = _; rw [← hLL]; kernel_rfl
  have ZR : Hid ((Tryz.prog.info? 61).map (·.size) = some RL.length) := by show _ = _; rw [← hRL]; kernel_rfl
  have HB := hid hB
  have HD := hid (hB.next (Below.drew (Below.refl _ _)))
  clear hB hs hk hSL hSR hCP hUL hLL hRL
  go_enter Tryz.func69, Tryz.ntmps69
  go_wp2_with fail
  refine start_n (S := (fun w' => w'.rangeAt w.heap.size 0 UL ∧ w'.rangeAt (w.heap.size + 1) 2 LL ∧ w'.rangeAt (w.heap.size + 1) 8 RL)) 14 #[false, false, false, false, false, false, false, false, false, false, false, false, false, false] rfl rfl (by kernel_rfl) (HS.out _ HD.out) (fun hHeld => ?_)
  refine take_mk (i := 1) (v := ?v1) rfl (by kernel_rfl) (by kernel_rfl) (by kernel_rfl) (fun _ _ _ h => h) (Or.inl ⟨by rfl, ?hy1⟩) (by assumption) ?rest1
  case hy1 => (intro w0 hSw; (try dsimp only at hSw); go_simp <;> (try (with_reducible rfl)))
  (try simp only [Act.put, List.setIfInBounds_toArray, List.set_cons_zero, List.set_cons_succ])
  refine take_mk (i := 5) (v := ?v2) rfl (by kernel_rfl) (by kernel_rfl) (by kernel_rfl) (fun _ _ _ h => h) (Or.inl ⟨by rfl, ?hy2⟩) (by assumption) ?rest2
  case hy2 => (intro w0 hSw; (try dsimp only at hSw); go_simp <;> (try (with_reducible rfl)))
  (try simp only [Act.put, List.setIfInBounds_toArray, List.set_cons_zero, List.set_cons_succ])
  refine take_mk (i := 0) rfl (by kernel_rfl) (by kernel_rfl) (by kernel_rfl) (fun _ _ _ h => h) (yieldsIf_load_mid (by rfl) 55 _ rfl w.heap.size (0) (by rfl) UL _ (fun _ h => h.1) Tryz.underlying55 rfl ZU.out) (by assumption) ?_
  (try simp only [Act.put, List.setIfInBounds_toArray, List.set_cons_zero, List.set_cons_succ])
  refine take_mk (i := 2) rfl (by kernel_rfl) (by kernel_rfl) (by kernel_rfl) (fun _ _ _ h => h) (yieldsIf_load_mid (by rfl) 61 _ rfl (w.heap.size + 1) (2) (by rfl) LL _ (fun _ h => h.2.1) Tryz.underlying61 rfl ZL.out) (by assumption) ?_
  (try simp only [Act.put, List.setIfInBounds_toArray, List.set_cons_zero, List.set_cons_succ])
  refine take_mk (i := 4) rfl (by kernel_rfl) (by kernel_rfl) (by kernel_rfl) (fun _ _ _ h => h) (yieldsIf_load_mid (by rfl) 55 _ rfl w.heap.size (0) (by rfl) UL _ (fun _ h => h.1) Tryz.underlying55 rfl ZU.out) (by assumption) ?_
  (try simp only [Act.put, List.setIfInBounds_toArray, List.set_cons_zero, List.set_cons_succ])
  refine take_mk (i := 6) rfl (by kernel_rfl) (by kernel_rfl) (by kernel_rfl) (fun _ _ _ h => h) (yieldsIf_load_mid (by rfl) 61 _ rfl (w.heap.size + 1) (8) (by rfl) RL _ (fun _ h => h.2.2) Tryz.underlying61 rfl ZR.out) (by assumption) ?_
  (try simp only [Act.put, List.setIfInBounds_toArray, List.set_cons_zero, List.set_cons_succ])
  refine wpAnyH_ready (rs := [3]) (by kernel_rfl) (by simp) ?_
  refine cons_mk rfl (fun K hK => ?_) AllReadyH.nil
  refine step_call2 119 ent_side (by rfl) _ _ _ (by rfl) (.agg UL.toArray) (.agg LL.toArray) (by rfl) (by rfl) _ (HSL.out _ HD.out.bel) ?_
  rintro e w3 ⟨rfl, hb3⟩
  refine ⟨_, rfl, ?_⟩
  have HB3 := hid (HD.out.next hb3)
  clear hb3
  refine hK.out _ _ (HS.out _ HB3.out) (fun hHeld => ?_)
  clear hK K
  (try simp only [Act.put, List.setIfInBounds_toArray, List.set_cons_zero, List.set_cons_succ])
  refine wpAnyH_ready (rs := [7]) (by kernel_rfl) (by simp) ?_
  refine cons_mk rfl (fun K hK => ?_) AllReadyH.nil
  refine step_call2 119 ent_side (by rfl) _ _ _ (by rfl) (.agg UL.toArray) (.agg RL.toArray) (by rfl) (by rfl) _ (HSR.out _ HB3.out.bel) ?_
  rintro e w4 ⟨rfl, hb4⟩
  refine ⟨_, rfl, ?_⟩
  have HB4 := hid (HB3.out.next hb4)
  clear hb4
  refine hK.out _ _ (HS.out _ HB4.out) (fun hHeld => ?_)
  clear hK K
  (try simp only [Act.put, List.setIfInBounds_toArray, List.set_cons_zero, List.set_cons_succ])
  refine wpAnyH_ready (rs := [8]) (by kernel_rfl) (by simp) ?_
  refine cons_mk rfl (fun K hK => ?_) AllReadyH.nil
  refine step_call2 118 ent_cmpr (by rfl) _ _ _ (by rfl) (V4.vV ⟨ak, an, as_⟩) (V4.vV ⟨bk, bn, bs⟩) (by rfl) (by rfl) _ (HCP.out _) ?_
  rintro e w5 ⟨rfl, hb5⟩
  refine ⟨_, rfl, ?_⟩
  have HB5 := hid (HB4.out.next hb5)
  clear hb5
  refine hK.out _ _ (HS.out _ HB5.out) (fun hHeld => ?_)
  clear hK K
  (try simp only [Act.put, List.setIfInBounds_toArray, List.set_cons_zero, List.set_cons_succ])
  refine take_mk (i := 9) (v := ?v3) rfl (by kernel_rfl) (by kernel_rfl) (by kernel_rfl) (fun _ _ _ h => h) (Or.inl ⟨by rfl, ?hy3⟩) (by assumption) ?rest3
  case hy3 => (intro w0 hSw; (try dsimp only at hSw); go_simp <;> (try (with_reducible rfl)))
  (try simp only [Act.put, List.setIfInBounds_toArray, List.set_cons_zero, List.set_cons_succ])
  refine take_mk (i := 10) (v := ?v4) rfl (by kernel_rfl) (by kernel_rfl) (by kernel_rfl) (fun _ _ _ h => h) (Or.inl ⟨by rfl, ?hy4⟩) (by assumption) ?rest4
  case hy4 => (intro w0 hSw; (try dsimp only at hSw); go_simp <;> (try (with_reducible rfl)))
  (try simp only [Act.put, List.setIfInBounds_toArray, List.set_cons_zero, List.set_cons_succ])
  refine take_mk (i := 11) (v := ?v5) rfl (by kernel_rfl) (by kernel_rfl) (by kernel_rfl) (fun _ _ _ h => h) (Or.inl ⟨by rfl, ?hy5⟩) (by assumption) ?rest5
  case hy5 => (intro w0 hSw; (try dsimp only at hSw); go_simp <;> (try (with_reducible rfl)))
  (try simp only [Act.put, List.setIfInBounds_toArray, List.set_cons_zero, List.set_cons_succ])
  refine take_mk (i := 12) (v := ?v6) rfl (by kernel_rfl) (by kernel_rfl) (by kernel_rfl) (fun _ _ _ h => h) (Or.inl ⟨by rfl, ?hy6⟩) (by assumption) ?rest6
  case hy6 => (intro w0 hSw; (try dsimp only at hSw); go_simp <;> (try (with_reducible rfl)))
  (try simp only [Act.put, List.setIfInBounds_toArray, List.set_cons_zero, List.set_cons_succ])
  refine take_mk (i := 13) (v := ?v7) rfl (by kernel_rfl) (by kernel_rfl) (by kernel_rfl) (fun _ _ _ h => h) (Or.inl ⟨by rfl, ?hy7⟩) (by assumption) ?rest7
  case hy7 => (intro w0 hSw; (try dsimp only at hSw); go_simp <;> (try (with_reducible rfl)))
  (try simp only [Act.put, List.setIfInBounds_toArray, List.set_cons_zero, List.set_cons_succ])
  refine wpAnyH_done (by kernel_rfl) ?_ _
  have c0 : w5.cell? ⟨w.heap.size + 1, 0, none⟩ = some (.int .i64 ck) := HB5.out.c 1 (by simp) 0
  clear HSL HSR HCP HS ZU ZL ZR HB HD HB3 HB4
  rcases (by omega : ck = 4 ∨ ck = 5 ∨ ck = 6 ∨ ck = 7) with rfl | rfl | rfl | rfl
  · go_wp2_with fail
    go_ret
    exact ⟨ret_bool (by rw [Bool.eq_iff_iff]; simp [cmb]), HB5.out.bel⟩
  · go_wp2_with fail
    go_ret
    exact ⟨ret_bool (by rw [Bool.eq_iff_iff]; simp [cmb]), HB5.out.bel⟩
  · go_wp2_with fail
    go_ret
    exact ⟨ret_bool (by rw [Bool.eq_iff_iff]; simp [cmb]), HB5.out.bel⟩
  · go_wp2_with fail
    go_ret
    exact ⟨ret_bool (by rw [Bool.eq_iff_iff]; simp [cmb]), HB5.out.bel⟩
/-- What is known of conditions that may be, so deep. -/
def Hok (F : FuncId) (q : Cn → Bool) (ts : List Tp) (ws : List Pt) (own : Ev) (kn : List Ev) (tv ov wv kv : Value) (n : Nat) : Prop :=
  ∀ (c : Cn) (cv : Value) (w : World), Scn w ts ws own kn tv ov wv kv → Rd w (.row 63 14 c.sb) cv → Wsz c → (cdk ts ws (ts.getD own.t.toNat dT) n c).2 = 0 → Calls Tryz.prog F #[snV tv own ov wv kv, cnV c.k cv c.l c.r] w fun e w' => e = .returned (.bool (q c)) ∧ Below w.heap.size w w'
set_option maxHeartbeats 16000000 in
theorem fails_s (ts : List Tp) (ws : List Pt) (own : Ev) (kn : List Ev) (tv ov wv kv : Value) (n : Nat) (ih : Hok 32 (hld ts ws own kn n) ts ws own kn tv ov wv kv n) : Hok 68 (fun c => !(hld ts ws own kn n c)) ts ws own kn tv ov wv kv n := by
  intro c cv w hs hcr hw hd
  have hH := fun W (hW : Below w.heap.size w W) => ih c cv W (hs.later hW) (hcr.later hW) hw hd
  obtain ⟨q, hq⟩ : ∃ q, hld ts ws own kn n c = q := ⟨_, rfl⟩
  rw [hq] at hH
  simp only [hq]
  obtain ⟨cp, cn, cc, hcv⟩ := rd_shape hcr
  clear hw hd hq ih
  obtain ⟨tp, tn, tc, htv⟩ := rd_shape hs.rt
  obtain ⟨op, on2, oc, hov⟩ := rd_shape hs.ro
  obtain ⟨wp, wn, wc, hwv⟩ := rd_shape hs.rw
  obtain ⟨kp, kn2, kc, hkv⟩ := rd_shape hs.rk
  subst htv hov hwv hkv hcv
  obtain ⟨on, ot, ost, oen, ovl⟩ := own
  obtain ⟨ck, csb, ⟨lk, lvk, lvi, lvt, lva, lfd⟩, ⟨rk, rvk, rvi, rvt, rva, rfd⟩⟩ := c
  have hB : Bxs w ((w.alloc (.cells #[.slice tp tn tc, .int .i64 on, .int .i64 ot, .int .i64 ost, .int .i64 oen, .slice op on2 oc, .slice wp wn wc, .slice kp kn2 kc] 55)).alloc (.cells #[.int .i64 ck, .slice cp cn cc, .int .i64 lk, .int .i64 lvk, .int .i64 lvi, .string lvt, .string lva, .string lfd, .int .i64 rk, .int .i64 rvk, .int .i64 rvi, .string rvt, .string rva, .string rfd] 63)) [([.slice tp tn tc, .int .i64 on, .int .i64 ot, .int .i64 ost, .int .i64 oen, .slice op on2 oc, .slice wp wn wc, .slice kp kn2 kc], 55), ([.int .i64 ck, .slice cp cn cc, .int .i64 lk, .int .i64 lvk, .int .i64 lvi, .string lvt, .string lva, .string lfd, .int .i64 rk, .int .i64 rvk, .int .i64 rvi, .string rvt, .string rva, .string rfd], 63)] := bxs2 w _ _ _ _
  simp only at hH ⊢
  have HH := hid hH
  have HB := hid hB
  have XS := hid (hB.r 0 (by simp))
  have XC := hid (hB.r 1 (by simp))
  clear hB hs hcr hH
  go_enter Tryz.func68, Tryz.ntmps68
  go_wp2_with (first
    | ((with_reducible show wpList _ _ _ (Oper.mk _ (.load _ _) _ _ _ _ :: _) _ _); refine wpList_load_mid (by rfl) 55 _ (by rfl) w.heap.size 0 (by rfl) [.slice tp tn tc, .int .i64 on, .int .i64 ot, .int .i64 ost, .int .i64 oen, .slice op on2 oc, .slice wp wn wc, .slice kp kn2 kc] _ XS.out Tryz.underlying55 rfl (by kernel_rfl) ?_)
    | ((with_reducible show wpList _ _ _ (Oper.mk _ (.load _ _) _ _ _ _ :: _) _ _); refine wpList_load_mid (by rfl) 63 _ (by rfl) (w.heap.size + 1) 0 (by rfl) [.int .i64 ck, .slice cp cn cc, .int .i64 lk, .int .i64 lvk, .int .i64 lvi, .string lvt, .string lva, .string lfd, .int .i64 rk, .int .i64 rvk, .int .i64 rvi, .string rvt, .string rva, .string rfd] _ XC.out Tryz.underlying63 rfl (by kernel_rfl) ?_))
  refine (HH.out _ HB.out.bel).mono ?_
  rintro e w1 ⟨rfl, hb1⟩
  have HB1 := hid (HB.out.next hb1)
  clear hb1
  cases q <;>
  · go_wp2_with fail
    go_ret
    exact ⟨rfl, HB1.out.bel⟩
set_option maxHeartbeats 16000000 in
theorem indexHolds (ts : List Tp) (ws : List Pt) (own : Ev) (kn : List Ev) (tv ov wv kv : Value) (n : Nat) (Q : Cn → Bool) (ih : Hok 32 Q ts ws own kn tv ov wv kv n) (cs : List Cn) (hcs : ∀ c, c ∈ cs → Wsz c ∧ (cdk ts ws (ts.getD own.t.toNat dT) n c).2 = 0) (v : Value) (w : World) (hs : Scn w ts ws own kn tv ov wv kv) (h : Rd w (.row 63 14 (cs.map encC)) v) :
    Calls Tryz.prog 117 #[v, .func (.func 32) #[snV tv own ov wv kv] #[]] w fun e w' => e = .returned (.int .i64 (ixq Q cs 0)) ∧ Below w.heap.size w w' := by
  obtain ⟨p, cap, rfl, hmx, hat⟩ := rd_row lenC h
  have HAT : Hid (At encC 14 w p cs) := hat
  obtain ⟨m, hnl⟩ : ∃ n, cs.length = n := ⟨_, rfl⟩
  have HN := hid hnl
  have HS := hid hs
  rw [hnl] at hmx ⊢
  obtain ⟨SV, hSV⟩ : ∃ SV, snV tv own ov wv kv = SV := ⟨_, rfl⟩
  have HCL : Hid (∀ (k : Nat) (hk : k < cs.length) W, Below w.heap.size w W → ∀ A, RdL W (encC cs[k]) A → Calls Tryz.prog 32 #[SV, .agg A.toArray] W fun e w' => e = .returned (.bool (Q cs[k])) ∧ Below W.heap.size W w') := fun k hk W hW A hA => by
    obtain ⟨cv, z1, o2⟩ := encC_rd hA
    rw [z1, ← hSV]
    exact ih cs[k] cv W (HS.out.later hW) o2 (hcs _ (List.getElem_mem hk)).1 (hcs _ (List.getElem_mem hk)).2
  rw [hSV]
  clear h hat hnl hs ih hcs hSV
  go_enter Tryz.func117, Tryz.ntmps117
  go_wp2_with fail
  go_loopg [8] (m + 1) (fun gg i wr => ∃ k : Nat, k ≤ m ∧ gg = m + 1 - k ∧ i = .int .i64 (k : Nat) ∧ (∀ (j : Nat) (hj : j < cs.length), j < k → Q cs[j] = false) ∧ Below w.heap.size w wr)
  case atStart => exact ⟨0, by omega, by omega, rfl, fun j _ h => by omega, Below.refl _ _⟩
  case round =>
    obtain ⟨k, hk, rfl, rfl, hno, hB⟩ := hrel
    have HB := hid hB
    by_cases hlt : k < m
    · have hkc : k < cs.length := by have := HN.out; omega
      obtain ⟨g, off, rfl, hrd⟩ := HAT.out (by omega)
      obtain ⟨A, r1, o1⟩ := hrd wr hB k hkc
      have hAz : A.length = 14 := o1.1.symm
      have ZA : Hid ((Tryz.prog.info? 63).map (·.size) = some A.length) := by show _ = _; rw [hAz]; kernel_rfl
      have HCM := hid (HCL.out k hkc wr hB A o1)
      have HNO := hid hno
      obtain ⟨q, hq⟩ : ∃ q, Q cs[k] = q := ⟨_, rfl⟩
      have HQK : Hid (Q cs[k] = q) := hq
      rw [hq] at HCM
      have X1_ := hid r1
      have i1 : (0 : Int) ≤ (k : Int) := by omega
      have i2 : (k : Int) < (m : Int) := by omega
      clear hno hB hrd o1 r1 hq hAz
      cases q with
      | true =>
        go_wp2_with (first
          | ((with_reducible show wpList _ _ _ (Oper.mk _ (.load _ _) _ _ _ _ :: _) _ _); refine wpList_load_mid (by rfl) 63 _ (by rfl) g (off + k * 14) (by rfl) A _ X1_.out Tryz.underlying63 rfl ZA.out ?_)
          | (go_at_call 32; refine HCM.out.mono ?_; rintro e w2 ⟨rfl, hb2⟩; have HB2 := hid (below_trans HB.out hb2 HB.out.size); clear hb2))
        go_ret
        exact ⟨ret_int (by show (k : Int) = ixq _ _ _; rw [ixq_hit (q := Q) cs 0 k hkc (fun j hj => HNO.out j (by omega) hj) (by exact HQK.out)]; simp), HB2.out⟩
      | false =>
        go_wp2_with (first
          | ((with_reducible show wpList _ _ _ (Oper.mk _ (.load _ _) _ _ _ _ :: _) _ _); refine wpList_load_mid (by rfl) 63 _ (by rfl) g (off + k * 14) (by rfl) A _ X1_.out Tryz.underlying63 rfl ZA.out ?_)
          | (go_at_call 32; refine HCM.out.mono ?_; rintro e w2 ⟨rfl, hb2⟩; have HB2 := hid (below_trans HB.out hb2 HB.out.size); clear hb2))
        go_roundg (m + 1 - (k + 1))
        case rel =>
          refine ⟨k + 1, by omega, rfl, by go_num, fun j hj hjk => ?_, HB2.out⟩
          by_cases c : j < k
          · exact HNO.out j hj c
          · obtain rfl : j = k := by omega
            exact HQK.out
        case measure => omega
    · obtain rfl : k = m := by omega
      have HR := hid (show ixq Q cs 0 = -1 from ixq_none _ _ (fun x hx => by
        obtain ⟨j, hj, rfl⟩ := List.getElem_of_mem hx
        exact hno j hj (by have := HN.out; omega)))
      clear hno hB
      go_wp2_with fail
      go_ret
      exact ⟨ret_int HR.out.symm, HB.out⟩
set_option maxHeartbeats 4000000 in
theorem containsHolds (ts : List Tp) (ws : List Pt) (own : Ev) (kn : List Ev) (tv ov wv kv : Value) (n : Nat) (Q : Cn → Bool) (ih : Hok 32 Q ts ws own kn tv ov wv kv n) (cs : List Cn) (hcs : ∀ c, c ∈ cs → Wsz c ∧ (cdk ts ws (ts.getD own.t.toNat dT) n c).2 = 0) (v : Value) (w : World) (hs : Scn w ts ws own kn tv ov wv kv) (h : Rd w (.row 63 14 (cs.map encC)) v) (q : Bool) (hq : cs.any Q = q) :
    Calls Tryz.prog 67 #[v, .func (.func 32) #[snV tv own ov wv kv] #[]] w fun e w' => e = .returned (.bool q) ∧ Below w.heap.size w w' := by
  have hC := indexHolds ts ws own kn tv ov wv kv n Q ih cs hcs v w hs h
  obtain ⟨p, l, cap, rfl⟩ := rd_shape h
  have ha := ixq_any (q := Q) cs 0
  rw [hq] at ha
  obtain ⟨x, hx⟩ : ∃ x, ixq Q cs 0 = x := ⟨_, rfl⟩
  rw [hx] at ha hC
  have d : decide (0 ≤ x) = q := by cases q <;> simp_all
  obtain ⟨SV, hSV⟩ : ∃ SV, snV tv own ov wv kv = SV := ⟨_, rfl⟩
  rw [hSV] at hC ⊢
  have HC := hid hC
  clear hx hq h ha hs hcs ih hC hSV
  cases q <;>
  · go_enter Tryz.func67, Tryz.ntmps67
    go_wp2_with fail
    refine HC.out.mono ?_
    rintro e w2 ⟨rfl, hb2⟩
    have HB := hid hb2
    clear hb2
    go_wp2_with fail
    go_ret
    exact ⟨rfl, HB.out⟩
set_option maxHeartbeats 16000000 in
theorem indexFails (ts : List Tp) (ws : List Pt) (own : Ev) (kn : List Ev) (tv ov wv kv : Value) (n : Nat) (Q : Cn → Bool) (ih : Hok 68 Q ts ws own kn tv ov wv kv n) (cs : List Cn) (hcs : ∀ c, c ∈ cs → Wsz c ∧ (cdk ts ws (ts.getD own.t.toNat dT) n c).2 = 0) (v : Value) (w : World) (hs : Scn w ts ws own kn tv ov wv kv) (h : Rd w (.row 63 14 (cs.map encC)) v) :
    Calls Tryz.prog 117 #[v, .func (.func 68) #[snV tv own ov wv kv] #[]] w fun e w' => e = .returned (.int .i64 (ixq Q cs 0)) ∧ Below w.heap.size w w' := by
  obtain ⟨p, cap, rfl, hmx, hat⟩ := rd_row lenC h
  have HAT : Hid (At encC 14 w p cs) := hat
  obtain ⟨m, hnl⟩ : ∃ n, cs.length = n := ⟨_, rfl⟩
  have HN := hid hnl
  have HS := hid hs
  rw [hnl] at hmx ⊢
  obtain ⟨SV, hSV⟩ : ∃ SV, snV tv own ov wv kv = SV := ⟨_, rfl⟩
  have HCL : Hid (∀ (k : Nat) (hk : k < cs.length) W, Below w.heap.size w W → ∀ A, RdL W (encC cs[k]) A → Calls Tryz.prog 68 #[SV, .agg A.toArray] W fun e w' => e = .returned (.bool (Q cs[k])) ∧ Below W.heap.size W w') := fun k hk W hW A hA => by
    obtain ⟨cv, z1, o2⟩ := encC_rd hA
    rw [z1, ← hSV]
    exact ih cs[k] cv W (HS.out.later hW) o2 (hcs _ (List.getElem_mem hk)).1 (hcs _ (List.getElem_mem hk)).2
  rw [hSV]
  clear h hat hnl hs ih hcs hSV
  go_enter Tryz.func117, Tryz.ntmps117
  go_wp2_with fail
  go_loopg [8] (m + 1) (fun gg i wr => ∃ k : Nat, k ≤ m ∧ gg = m + 1 - k ∧ i = .int .i64 (k : Nat) ∧ (∀ (j : Nat) (hj : j < cs.length), j < k → Q cs[j] = false) ∧ Below w.heap.size w wr)
  case atStart => exact ⟨0, by omega, by omega, rfl, fun j _ h => by omega, Below.refl _ _⟩
  case round =>
    obtain ⟨k, hk, rfl, rfl, hno, hB⟩ := hrel
    have HB := hid hB
    by_cases hlt : k < m
    · have hkc : k < cs.length := by have := HN.out; omega
      obtain ⟨g, off, rfl, hrd⟩ := HAT.out (by omega)
      obtain ⟨A, r1, o1⟩ := hrd wr hB k hkc
      have hAz : A.length = 14 := o1.1.symm
      have ZA : Hid ((Tryz.prog.info? 63).map (·.size) = some A.length) := by show _ = _; rw [hAz]; kernel_rfl
      have HCM := hid (HCL.out k hkc wr hB A o1)
      have HNO := hid hno
      obtain ⟨q, hq⟩ : ∃ q, Q cs[k] = q := ⟨_, rfl⟩
      have HQK : Hid (Q cs[k] = q) := hq
      rw [hq] at HCM
      have X1_ := hid r1
      have i1 : (0 : Int) ≤ (k : Int) := by omega
      have i2 : (k : Int) < (m : Int) := by omega
      clear hno hB hrd o1 r1 hq hAz
      cases q with
      | true =>
        go_wp2_with (first
          | ((with_reducible show wpList _ _ _ (Oper.mk _ (.load _ _) _ _ _ _ :: _) _ _); refine wpList_load_mid (by rfl) 63 _ (by rfl) g (off + k * 14) (by rfl) A _ X1_.out Tryz.underlying63 rfl ZA.out ?_)
          | (go_at_call 68; refine HCM.out.mono ?_; rintro e w2 ⟨rfl, hb2⟩; have HB2 := hid (below_trans HB.out hb2 HB.out.size); clear hb2))
        go_ret
        exact ⟨ret_int (by show (k : Int) = ixq _ _ _; rw [ixq_hit (q := Q) cs 0 k hkc (fun j hj => HNO.out j (by omega) hj) (by exact HQK.out)]; simp), HB2.out⟩
      | false =>
        go_wp2_with (first
          | ((with_reducible show wpList _ _ _ (Oper.mk _ (.load _ _) _ _ _ _ :: _) _ _); refine wpList_load_mid (by rfl) 63 _ (by rfl) g (off + k * 14) (by rfl) A _ X1_.out Tryz.underlying63 rfl ZA.out ?_)
          | (go_at_call 68; refine HCM.out.mono ?_; rintro e w2 ⟨rfl, hb2⟩; have HB2 := hid (below_trans HB.out hb2 HB.out.size); clear hb2))
        go_roundg (m + 1 - (k + 1))
        case rel =>
          refine ⟨k + 1, by omega, rfl, by go_num, fun j hj hjk => ?_, HB2.out⟩
          by_cases c : j < k
          · exact HNO.out j hj c
          · obtain rfl : j = k := by omega
            exact HQK.out
        case measure => omega
    · obtain rfl : k = m := by omega
      have HR := hid (show ixq Q cs 0 = -1 from ixq_none _ _ (fun x hx => by
        obtain ⟨j, hj, rfl⟩ := List.getElem_of_mem hx
        exact hno j hj (by have := HN.out; omega)))
      clear hno hB
      go_wp2_with fail
      go_ret
      exact ⟨ret_int HR.out.symm, HB.out⟩
set_option maxHeartbeats 4000000 in
theorem containsFails (ts : List Tp) (ws : List Pt) (own : Ev) (kn : List Ev) (tv ov wv kv : Value) (n : Nat) (Q : Cn → Bool) (ih : Hok 68 Q ts ws own kn tv ov wv kv n) (cs : List Cn) (hcs : ∀ c, c ∈ cs → Wsz c ∧ (cdk ts ws (ts.getD own.t.toNat dT) n c).2 = 0) (v : Value) (w : World) (hs : Scn w ts ws own kn tv ov wv kv) (h : Rd w (.row 63 14 (cs.map encC)) v) (q : Bool) (hq : cs.any Q = q) :
    Calls Tryz.prog 67 #[v, .func (.func 68) #[snV tv own ov wv kv] #[]] w fun e w' => e = .returned (.bool q) ∧ Below w.heap.size w w' := by
  have hC := indexFails ts ws own kn tv ov wv kv n Q ih cs hcs v w hs h
  obtain ⟨p, l, cap, rfl⟩ := rd_shape h
  have ha := ixq_any (q := Q) cs 0
  rw [hq] at ha
  obtain ⟨x, hx⟩ : ∃ x, ixq Q cs 0 = x := ⟨_, rfl⟩
  rw [hx] at ha hC
  have d : decide (0 ≤ x) = q := by cases q <;> simp_all
  obtain ⟨SV, hSV⟩ : ∃ SV, snV tv own ov wv kv = SV := ⟨_, rfl⟩
  rw [hSV] at hC ⊢
  have HC := hid hC
  clear hx hq h ha hs hcs ih hC hSV
  cases q <;>
  · go_enter Tryz.func67, Tryz.ntmps67
    go_wp2_with fail
    refine HC.out.mono ?_
    rintro e w2 ⟨rfl, hb2⟩
    have HB := hid hb2
    clear hb2
    go_wp2_with fail
    go_ret
    exact ⟨rfl, HB.out⟩
set_option maxHeartbeats 8000000 in
theorem holds_zero (ts : List Tp) (ws : List Pt) (own : Ev) (kn : List Ev) (tv ov wv kv : Value) (c : Cn) (cv : Value) (w : World) (hs : Scn w ts ws own kn tv ov wv kv) (hcr : Rd w (.row 63 14 c.sb) cv) (h0 : c.k = 0) : Calls Tryz.prog 32 #[snV tv own ov wv kv, cnV c.k cv c.l c.r] w fun e w' => e = .returned (.bool (true)) ∧ Below w.heap.size w w' := by
  obtain ⟨cp, cn, cc, hcv⟩ := rd_shape hcr
  obtain ⟨tp, tn, tc, htv⟩ := rd_shape hs.rt
  obtain ⟨op, on2, oc, hov⟩ := rd_shape hs.ro
  obtain ⟨wp, wn, wc, hwv⟩ := rd_shape hs.rw
  obtain ⟨kp, kn2, kc, hkv⟩ := rd_shape hs.rk
  subst htv hov hwv hkv hcv
  obtain ⟨on, ot, ost, oen, ovl⟩ := own
  obtain ⟨ck, csb, ⟨lk, lvk, lvi, lvt, lva, lfd⟩, ⟨rk, rvk, rvi, rvt, rva, rfd⟩⟩ := c
  have hB : Bxs w ((w.alloc (.cells #[.slice tp tn tc, .int .i64 on, .int .i64 ot, .int .i64 ost, .int .i64 oen, .slice op on2 oc, .slice wp wn wc, .slice kp kn2 kc] 55)).alloc (.cells #[.int .i64 ck, .slice cp cn cc, .int .i64 lk, .int .i64 lvk, .int .i64 lvi, .string lvt, .string lva, .string lfd, .int .i64 rk, .int .i64 rvk, .int .i64 rvi, .string rvt, .string rva, .string rfd] 63)) [([.slice tp tn tc, .int .i64 on, .int .i64 ot, .int .i64 ost, .int .i64 oen, .slice op on2 oc, .slice wp wn wc, .slice kp kn2 kc], 55), ([.int .i64 ck, .slice cp cn cc, .int .i64 lk, .int .i64 lvk, .int .i64 lvi, .string lvt, .string lva, .string lfd, .int .i64 rk, .int .i64 rvk, .int .i64 rvi, .string rvt, .string rva, .string rfd], 63)] := bxs2 w _ _ _ _
  simp only at h0
  subst h0
  have HB := hid hB.bel
  clear hB hs hcr
  go_enter Tryz.func32, Tryz.ntmps32
  go_wp2_with fail
  go_ret
  exact ⟨rfl, HB.out⟩
set_option maxHeartbeats 16000000 in
theorem holds_and (ts : List Tp) (ws : List Pt) (own : Ev) (kn : List Ev) (tv ov wv kv : Value) (c : Cn) (cv : Value) (w : World) (hs : Scn w ts ws own kn tv ov wv kv) (hcr : Rd w (.row 63 14 c.sb) cv) (h0 : c.k = 1) (q : Bool) (hC : ∀ W, Below w.heap.size w W → Calls Tryz.prog 67 #[cv, .func (.func 68) #[snV tv own ov wv kv] #[]] W fun e w' => e = .returned (.bool q) ∧ Below W.heap.size W w') : Calls Tryz.prog 32 #[snV tv own ov wv kv, cnV c.k cv c.l c.r] w fun e w' => e = .returned (.bool (!q)) ∧ Below w.heap.size w w' := by
  obtain ⟨cp, cn, cc, hcv⟩ := rd_shape hcr
  obtain ⟨tp, tn, tc, htv⟩ := rd_shape hs.rt
  obtain ⟨op, on2, oc, hov⟩ := rd_shape hs.ro
  obtain ⟨wp, wn, wc, hwv⟩ := rd_shape hs.rw
  obtain ⟨kp, kn2, kc, hkv⟩ := rd_shape hs.rk
  subst htv hov hwv hkv hcv
  obtain ⟨on, ot, ost, oen, ovl⟩ := own
  obtain ⟨ck, csb, ⟨lk, lvk, lvi, lvt, lva, lfd⟩, ⟨rk, rvk, rvi, rvt, rva, rfd⟩⟩ := c
  have hB : Bxs w ((w.alloc (.cells #[.slice tp tn tc, .int .i64 on, .int .i64 ot, .int .i64 ost, .int .i64 oen, .slice op on2 oc, .slice wp wn wc, .slice kp kn2 kc] 55)).alloc (.cells #[.int .i64 ck, .slice cp cn cc, .int .i64 lk, .int .i64 lvk, .int .i64 lvi, .string lvt, .string lva, .string lfd, .int .i64 rk, .int .i64 rvk, .int .i64 rvi, .string rvt, .string rva, .string rfd] 63)) [([.slice tp tn tc, .int .i64 on, .int .i64 ot, .int .i64 ost, .int .i64 oen, .slice op on2 oc, .slice wp wn wc, .slice kp kn2 kc], 55), ([.int .i64 ck, .slice cp cn cc, .int .i64 lk, .int .i64 lvk, .int .i64 lvi, .string lvt, .string lva, .string lfd, .int .i64 rk, .int .i64 rvk, .int .i64 rvi, .string rvt, .string rva, .string rfd], 63)] := bxs2 w _ _ _ _
  simp only at h0 hC
  subst h0
  have HC := hid hC
  have HB := hid hB
  have XS := hid (hB.r 0 (by simp))
  clear hB hs hcr hC
  go_enter Tryz.func32, Tryz.ntmps32
  go_wp2_with ((with_reducible show wpList _ _ _ (Oper.mk _ (.load _ _) _ _ _ _ :: _) _ _); refine wpList_load_mid (by rfl) 55 _ (by rfl) w.heap.size 0 (by rfl) [.slice tp tn tc, .int .i64 on, .int .i64 ot, .int .i64 ost, .int .i64 oen, .slice op on2 oc, .slice wp wn wc, .slice kp kn2 kc] _ XS.out Tryz.underlying55 rfl (by kernel_rfl) ?_)
  refine (HC.out _ HB.out.bel).mono ?_
  rintro e w1 ⟨rfl, hb1⟩
  have HB1 := hid (HB.out.next hb1)
  clear hb1
  cases q <;>
  · go_wp2_with fail
    go_ret
    exact ⟨rfl, HB1.out.bel⟩
set_option maxHeartbeats 16000000 in
theorem holds_or (ts : List Tp) (ws : List Pt) (own : Ev) (kn : List Ev) (tv ov wv kv : Value) (c : Cn) (cv : Value) (w : World) (hs : Scn w ts ws own kn tv ov wv kv) (hcr : Rd w (.row 63 14 c.sb) cv) (h0 : c.k = 2) (q : Bool) (hC : ∀ W, Below w.heap.size w W → Calls Tryz.prog 67 #[cv, .func (.func 32) #[snV tv own ov wv kv] #[]] W fun e w' => e = .returned (.bool q) ∧ Below W.heap.size W w') : Calls Tryz.prog 32 #[snV tv own ov wv kv, cnV c.k cv c.l c.r] w fun e w' => e = .returned (.bool (q)) ∧ Below w.heap.size w w' := by
  obtain ⟨cp, cn, cc, hcv⟩ := rd_shape hcr
  obtain ⟨tp, tn, tc, htv⟩ := rd_shape hs.rt
  obtain ⟨op, on2, oc, hov⟩ := rd_shape hs.ro
  obtain ⟨wp, wn, wc, hwv⟩ := rd_shape hs.rw
  obtain ⟨kp, kn2, kc, hkv⟩ := rd_shape hs.rk
  subst htv hov hwv hkv hcv
  obtain ⟨on, ot, ost, oen, ovl⟩ := own
  obtain ⟨ck, csb, ⟨lk, lvk, lvi, lvt, lva, lfd⟩, ⟨rk, rvk, rvi, rvt, rva, rfd⟩⟩ := c
  have hB : Bxs w ((w.alloc (.cells #[.slice tp tn tc, .int .i64 on, .int .i64 ot, .int .i64 ost, .int .i64 oen, .slice op on2 oc, .slice wp wn wc, .slice kp kn2 kc] 55)).alloc (.cells #[.int .i64 ck, .slice cp cn cc, .int .i64 lk, .int .i64 lvk, .int .i64 lvi, .string lvt, .string lva, .string lfd, .int .i64 rk, .int .i64 rvk, .int .i64 rvi, .string rvt, .string rva, .string rfd] 63)) [([.slice tp tn tc, .int .i64 on, .int .i64 ot, .int .i64 ost, .int .i64 oen, .slice op on2 oc, .slice wp wn wc, .slice kp kn2 kc], 55), ([.int .i64 ck, .slice cp cn cc, .int .i64 lk, .int .i64 lvk, .int .i64 lvi, .string lvt, .string lva, .string lfd, .int .i64 rk, .int .i64 rvk, .int .i64 rvi, .string rvt, .string rva, .string rfd], 63)] := bxs2 w _ _ _ _
  simp only at h0 hC
  subst h0
  have HC := hid hC
  have HB := hid hB
  have XS := hid (hB.r 0 (by simp))
  clear hB hs hcr hC
  go_enter Tryz.func32, Tryz.ntmps32
  go_wp2_with ((with_reducible show wpList _ _ _ (Oper.mk _ (.load _ _) _ _ _ _ :: _) _ _); refine wpList_load_mid (by rfl) 55 _ (by rfl) w.heap.size 0 (by rfl) [.slice tp tn tc, .int .i64 on, .int .i64 ot, .int .i64 ost, .int .i64 oen, .slice op on2 oc, .slice wp wn wc, .slice kp kn2 kc] _ XS.out Tryz.underlying55 rfl (by kernel_rfl) ?_)
  refine (HC.out _ HB.out.bel).mono ?_
  rintro e w1 ⟨rfl, hb1⟩
  have HB1 := hid (HB.out.next hb1)
  clear hb1
  cases q <;>
  · go_wp2_with fail
    go_ret
    exact ⟨rfl, HB1.out.bel⟩
set_option maxHeartbeats 16000000 in
theorem holds_cmp (ts : List Tp) (ws : List Pt) (own : Ev) (kn : List Ev) (tv ov wv kv : Value) (c : Cn) (cv : Value) (w : World) (hs : Scn w ts ws own kn tv ov wv kv) (hcr : Rd w (.row 63 14 c.sb) cv) (h4 : 4 ≤ c.k) (h7 : c.k ≤ 7) (q : Bool) (hC : ∀ W, Below w.heap.size w W → Calls Tryz.prog 69 #[snV tv own ov wv kv, cnV c.k cv c.l c.r] W fun e w' => e = .returned (.bool q) ∧ Below W.heap.size W w') : Calls Tryz.prog 32 #[snV tv own ov wv kv, cnV c.k cv c.l c.r] w fun e w' => e = .returned (.bool (q)) ∧ Below w.heap.size w w' := by
  obtain ⟨cp, cn, cc, hcv⟩ := rd_shape hcr
  obtain ⟨tp, tn, tc, htv⟩ := rd_shape hs.rt
  obtain ⟨op, on2, oc, hov⟩ := rd_shape hs.ro
  obtain ⟨wp, wn, wc, hwv⟩ := rd_shape hs.rw
  obtain ⟨kp, kn2, kc, hkv⟩ := rd_shape hs.rk
  subst htv hov hwv hkv hcv
  obtain ⟨on, ot, ost, oen, ovl⟩ := own
  obtain ⟨ck, csb, ⟨lk, lvk, lvi, lvt, lva, lfd⟩, ⟨rk, rvk, rvi, rvt, rva, rfd⟩⟩ := c
  have hB : Bxs w ((w.alloc (.cells #[.slice tp tn tc, .int .i64 on, .int .i64 ot, .int .i64 ost, .int .i64 oen, .slice op on2 oc, .slice wp wn wc, .slice kp kn2 kc] 55)).alloc (.cells #[.int .i64 ck, .slice cp cn cc, .int .i64 lk, .int .i64 lvk, .int .i64 lvi, .string lvt, .string lva, .string lfd, .int .i64 rk, .int .i64 rvk, .int .i64 rvi, .string rvt, .string rva, .string rfd] 63)) [([.slice tp tn tc, .int .i64 on, .int .i64 ot, .int .i64 ost, .int .i64 oen, .slice op on2 oc, .slice wp wn wc, .slice kp kn2 kc], 55), ([.int .i64 ck, .slice cp cn cc, .int .i64 lk, .int .i64 lvk, .int .i64 lvi, .string lvt, .string lva, .string lfd, .int .i64 rk, .int .i64 rvk, .int .i64 rvi, .string rvt, .string rva, .string rfd], 63)] := bxs2 w _ _ _ _
  simp only at h4 h7 hC
  have d0 : decide (ck = 0) = false := by simp; omega
  have d1 : decide (ck = 1) = false := by simp; omega
  have d2 : decide (ck = 2) = false := by simp; omega
  have d3 : decide (ck = 3) = false := by simp; omega
  have n0 : ¬ ck = 0 := by omega
  have n1 : ¬ ck = 1 := by omega
  have n2 : ¬ ck = 2 := by omega
  have n3 : ¬ ck = 3 := by omega
  have HC := hid hC
  have HB := hid hB
  have XS := hid (hB.r 0 (by simp))
  have XC := hid (hB.r 1 (by simp))
  clear hB hs hcr hC
  go_enter Tryz.func32, Tryz.ntmps32
  go_wp2_with (first
    | ((with_reducible show wpList _ _ _ (Oper.mk _ (.load _ _) _ _ _ _ :: _) _ _); refine wpList_load_mid (by rfl) 55 _ (by rfl) w.heap.size 0 (by rfl) [.slice tp tn tc, .int .i64 on, .int .i64 ot, .int .i64 ost, .int .i64 oen, .slice op on2 oc, .slice wp wn wc, .slice kp kn2 kc] _ XS.out Tryz.underlying55 rfl (by kernel_rfl) ?_)
    | ((with_reducible show wpList _ _ _ (Oper.mk _ (.load _ _) _ _ _ _ :: _) _ _); refine wpList_load_mid (by rfl) 63 _ (by rfl) (w.heap.size + 1) 0 (by rfl) [.int .i64 ck, .slice cp cn cc, .int .i64 lk, .int .i64 lvk, .int .i64 lvi, .string lvt, .string lva, .string lfd, .int .i64 rk, .int .i64 rvk, .int .i64 rvi, .string rvt, .string rva, .string rfd] _ XC.out Tryz.underlying63 rfl (by kernel_rfl) ?_))
  refine (HC.out _ HB.out.bel).mono ?_
  rintro e w1 ⟨rfl, hb1⟩
  have HB1 := hid (HB.out.next hb1)
  clear hb1
  go_wp2_with fail
  go_ret
  exact ⟨rfl, HB1.out.bel⟩
set_option maxHeartbeats 16000000 in
theorem holds_not (ts : List Tp) (ws : List Pt) (own : Ev) (kn : List Ev) (tv ov wv kv : Value) (c : Cn) (cv : Value) (w : World) (hs : Scn w ts ws own kn tv ov wv kv) (hcr : Rd w (.row 63 14 c.sb) cv) (h0 : c.k = 3) (x : Cn) (hx : c.sb = [encC x]) (q : Bool) (hC : ∀ W, Below w.heap.size w W → ∀ xv, Rd W (.row 63 14 x.sb) xv → Calls Tryz.prog 68 #[snV tv own ov wv kv, cnV x.k xv x.l x.r] W fun e w' => e = .returned (.bool q) ∧ Below W.heap.size W w') : Calls Tryz.prog 32 #[snV tv own ov wv kv, cnV c.k cv c.l c.r] w fun e w' => e = .returned (.bool (q)) ∧ Below w.heap.size w w' := by
  have hcr2 : Rd w (.row 63 14 ([x].map encC)) cv := by rw [hx] at hcr; exact hcr
  obtain ⟨p', cap', hcv2, _, hat⟩ := rd_row lenC hcr2
  obtain ⟨g, off, hp', hrd⟩ := hat (by simp)
  obtain ⟨A, r1, o1⟩ := hrd w (Below.refl _ _) 0 (by simp)
  have r1' : w.rangeAt g off A := by simpa using r1
  obtain ⟨xv, z1, o2⟩ := encC_rd o1
  have z1' : A = cnC x.k xv x.l x.r := z1
  have o2' : Rd w (.row 63 14 x.sb) xv := o2
  have hAz : A.length = 14 := o1.1.symm
  obtain ⟨cp, cn, cc, hcv⟩ := rd_shape hcr
  obtain ⟨hcn, hcp⟩ : cn = 1 ∧ cp = some ⟨g, off, none⟩ := by
    rw [hcv] at hcv2
    simp only [Value.slice.injEq] at hcv2
    exact ⟨hcv2.2.1, hcv2.1.trans hp'⟩
  subst hcn hcp
  have HFC0 : ∀ W, Below w.heap.size w W → Calls Tryz.prog 68 #[snV tv own ov wv kv, .agg A.toArray] W fun e w' => e = .returned (.bool q) ∧ Below W.heap.size W w' := fun W hW => by rw [z1']; exact hC W hW xv (o2'.later hW)
  clear hcr2 hcv2 hat hp' hrd r1 o1 z1 o2 z1' o2' hx hC
  obtain ⟨tp, tn, tc, htv⟩ := rd_shape hs.rt
  obtain ⟨op, on2, oc, hov⟩ := rd_shape hs.ro
  obtain ⟨wp, wn, wc, hwv⟩ := rd_shape hs.rw
  obtain ⟨kp, kn2, kc, hkv⟩ := rd_shape hs.rk
  subst htv hov hwv hkv hcv
  obtain ⟨on, ot, ost, oen, ovl⟩ := own
  obtain ⟨ck, csb, ⟨lk, lvk, lvi, lvt, lva, lfd⟩, ⟨rk, rvk, rvi, rvt, rva, rfd⟩⟩ := c
  have hB : Bxs w ((w.alloc (.cells #[.slice tp tn tc, .int .i64 on, .int .i64 ot, .int .i64 ost, .int .i64 oen, .slice op on2 oc, .slice wp wn wc, .slice kp kn2 kc] 55)).alloc (.cells #[.int .i64 ck, .slice (some ⟨g, off, none⟩) 1 cc, .int .i64 lk, .int .i64 lvk, .int .i64 lvi, .string lvt, .string lva, .string lfd, .int .i64 rk, .int .i64 rvk, .int .i64 rvi, .string rvt, .string rva, .string rfd] 63)) [([.slice tp tn tc, .int .i64 on, .int .i64 ot, .int .i64 ost, .int .i64 oen, .slice op on2 oc, .slice wp wn wc, .slice kp kn2 kc], 55), ([.int .i64 ck, .slice (some ⟨g, off, none⟩) 1 cc, .int .i64 lk, .int .i64 lvk, .int .i64 lvi, .string lvt, .string lva, .string lfd, .int .i64 rk, .int .i64 rvk, .int .i64 rvi, .string rvt, .string rva, .string rfd], 63)] := bxs2 w _ _ _ _
  simp only at h0 HFC0
  subst h0
  obtain ⟨UL, hUL⟩ : ∃ UL : List Value, [.slice tp tn tc, .int .i64 on, .int .i64 ot, .int .i64 ost, .int .i64 oen, .slice op on2 oc, .slice wp wn wc, .slice kp kn2 kc] = UL := ⟨_, rfl⟩
  have HFC : Hid (∀ W, Below w.heap.size w W → Calls Tryz.prog 68 #[.agg UL.toArray, .agg A.toArray] W fun e w' => e = .returned (.bool q) ∧ Below W.heap.size W w') := fun W hW => by rw [← hUL]; exact HFC0 W hW
  have ZU : Hid ((Tryz.prog.info? 55).map (·.size) = some UL.length) := by show _ = _; rw [← hUL]; kernel_rfl
  have ZA : Hid ((Tryz.prog.info? 63).map (·.size) = some A.length) := by show _ = _; rw [hAz]; kernel_rfl
  have HS9 : Hid (∀ W, Bxs w W [([.slice tp tn tc, .int .i64 on, .int .i64 ot, .int .i64 ost, .int .i64 oen, .slice op on2 oc, .slice wp wn wc, .slice kp kn2 kc], 55), ([.int .i64 3, .slice (some ⟨g, off, none⟩) 1 cc, .int .i64 lk, .int .i64 lvk, .int .i64 lvi, .string lvt, .string lva, .string lfd, .int .i64 rk, .int .i64 rvk, .int .i64 rvi, .string rvt, .string rva, .string rfd], 63)] → (W.rangeAt w.heap.size 0 UL ∧ W.cell? ⟨w.heap.size + 1, 1, none⟩ = some (.slice (some ⟨g, off, none⟩) 1 cc) ∧ W.rangeAt g off A)) := fun W h => ⟨by rw [← hUL]; exact h.r 0 (by simp), h.c 1 (by simp) 1, range_below r1' h.bel⟩
  have HB := hid hB
  have HD := hid (hB.next (Below.drew (Below.refl _ _)))
  clear hB hs hcr HFC0 hUL hAz r1'
  go_enter Tryz.func32, Tryz.ntmps32
  go_wp2_with fail
  refine start_n (S := (fun w' => w'.rangeAt w.heap.size 0 UL ∧ w'.cell? ⟨w.heap.size + 1, 1, none⟩ = some (.slice (some ⟨g, off, none⟩) 1 cc) ∧ w'.rangeAt g off A)) 7 #[false, false, false, false, false, false, false] rfl rfl (by kernel_rfl) (HS9.out _ HD.out) (fun hHeld => ?_)
  refine take_mk (i := 1) (v := ?v8) rfl (by kernel_rfl) (by kernel_rfl) (by kernel_rfl) (fun _ _ _ h => h) (Or.inl ⟨by rfl, ?hy8⟩) (by assumption) ?rest8
  case hy8 => (intro w0 hSw; (try dsimp only at hSw); go_simp <;> (try (with_reducible rfl)))
  (try simp only [Act.put, List.setIfInBounds_toArray, List.set_cons_zero, List.set_cons_succ])
  refine take_mk (i := 2) (v := ?v9) rfl (by kernel_rfl) (by kernel_rfl) (by kernel_rfl) (fun _ _ _ h => h) (Or.inl ⟨by rfl, ?hy9⟩) (by assumption) ?rest9
  case hy9 => (intro w0 hSw; (try dsimp only at hSw); go_simp <;> (try (with_reducible rfl)))
  (try simp only [Act.put, List.setIfInBounds_toArray, List.set_cons_zero, List.set_cons_succ])
  refine take_mk (i := 3) (v := ?v10) rfl (by kernel_rfl) (by kernel_rfl) (by kernel_rfl) (fun _ _ _ h => h) (Or.inl ⟨by rfl, ?hy10⟩) (by assumption) ?rest10
  case hy10 => (intro w0 hSw; (try dsimp only at hSw); go_simp <;> (try (with_reducible rfl)))
  (try simp only [Act.put, List.setIfInBounds_toArray, List.set_cons_zero, List.set_cons_succ])
  refine take_mk (i := 0) rfl (by kernel_rfl) (by kernel_rfl) (by kernel_rfl) (fun _ _ _ h => h) (yieldsIf_load_mid (by rfl) 55 _ rfl w.heap.size (0) (by rfl) UL _ (fun _ h => h.1) Tryz.underlying55 rfl ZU.out) (by assumption) ?_
  (try simp only [Act.put, List.setIfInBounds_toArray, List.set_cons_zero, List.set_cons_succ])
  refine take_mk (i := 4) rfl (by kernel_rfl) (by kernel_rfl) (by kernel_rfl) (fun _ _ _ h => h) (yieldsIf_load_mid (by rfl) 63 _ rfl g (off) (by rfl) A _ (fun _ h => h.2.2) Tryz.underlying63 rfl ZA.out) (by assumption) ?_
  (try simp only [Act.put, List.setIfInBounds_toArray, List.set_cons_zero, List.set_cons_succ])
  refine wpAnyH_ready (rs := [5]) (by kernel_rfl) (by simp) ?_
  refine cons_mk rfl (fun K hK => ?_) AllReadyH.nil
  refine step_call2 68 ent_fails (by rfl) _ _ _ (by rfl) (.agg UL.toArray) (.agg A.toArray) (by rfl) (by rfl) _ (HFC.out _ HD.out.bel) ?_
  rintro e w3 ⟨rfl, hb3⟩
  refine ⟨_, rfl, ?_⟩
  have HB3 := hid (HD.out.next hb3)
  clear hb3
  refine hK.out _ _ (HS9.out _ HB3.out) (fun hHeld => ?_)
  clear hK K
  (try simp only [Act.put, List.setIfInBounds_toArray, List.set_cons_zero, List.set_cons_succ])
  refine take_mk (i := 6) (v := ?v11) rfl (by kernel_rfl) (by kernel_rfl) (by kernel_rfl) (fun _ _ _ h => h) (Or.inl ⟨by rfl, ?hy11⟩) (by assumption) ?rest11
  case hy11 => (intro w0 hSw; (try dsimp only at hSw); go_simp <;> (try (with_reducible rfl)))
  (try simp only [Act.put, List.setIfInBounds_toArray, List.set_cons_zero, List.set_cons_succ])
  refine wpAnyH_done (by kernel_rfl) ?_ _
  go_wp2_with fail
  go_ret
  exact ⟨rfl, HB3.out.bel⟩
theorem any_not {q : Cn → Bool} (l : List Cn) : (!(l.any fun c => !(q c))) = l.all q := by
  induction l with
  | nil => rfl
  | cons x r ih => rw [List.any_cons, List.all_cons, ← ih]; cases q x <;> simp
theorem holds_all (ts : List Tp) (ws : List Pt) (own : Ev) (kn : List Ev) (tv ov wv kv : Value) (hk : Sok ts ws own kn) : ∀ n, Hok 32 (hld ts ws own kn n) ts ws own kn tv ov wv kv n := by
  intro n
  induction n with
  | zero => intro c cv w hs hcr hw hd; obtain ⟨m, hm, _⟩ := cdk_ok hd; omega
  | succ n ih =>
    intro c cv w hs hcr hw hd
    obtain ⟨m, hm, k1, k7, hg, hcm⟩ := cdk_ok hd
    obtain rfl : n = m := by omega
    have hfl := fails_s ts ws own kn tv ov wv kv n ih
    rw [hld, if_neg (by omega)]
    by_cases h3 : c.k ≤ 3
    · obtain ⟨g1, g2⟩ := hg h3
      obtain ⟨cs, hcs⟩ : ∃ cs : List Cn, c.sb = cs.map encC ∧ ∀ x, x ∈ cs → Wsz x := by cases hw with | mk _ cs e _ _ q => exact ⟨cs, e, q⟩
      have hsub : subs c = cs := subs_of hcs.1
      rw [hsub] at g2 ⊢
      have hR : ∀ W, Below w.heap.size w W → Rd W (.row 63 14 (cs.map encC)) cv := fun W hW => by have := hcr.later hW; rw [hcs.1] at this; exact this
      by_cases h1 : c.k = 1
      · rw [if_pos h1, ← any_not]
        exact holds_and ts ws own kn tv ov wv kv c cv w hs hcr h1 _ (fun W hW => containsFails ts ws own kn tv ov wv kv n _ hfl cs (fun x hx => ⟨hcs.2 x hx, g2 x hx⟩) cv W (hs.later hW) (hR W hW) _ rfl)
      · rw [if_neg h1]
        by_cases h2 : c.k = 2
        · rw [if_pos h2]
          exact holds_or ts ws own kn tv ov wv kv c cv w hs hcr h2 _ (fun W hW => containsHolds ts ws own kn tv ov wv kv n _ ih cs (fun x hx => ⟨hcs.2 x hx, g2 x hx⟩) cv W (hs.later hW) (hR W hW) _ rfl)
        · have h3' : c.k = 3 := by omega
          rw [if_neg h2, if_pos h3']
          have hl := g1 h3'
          rw [hcs.1, List.length_map] at hl
          obtain ⟨x, rfl⟩ : ∃ x, cs = [x] := by
            match cs, hl with
            | [x], _ => exact ⟨x, rfl⟩
          have hx : x ∈ [x] := List.mem_singleton.2 rfl
          exact holds_not ts ws own kn tv ov wv kv c cv w hs hcr h3' x (by rw [hcs.1]; rfl) _ (fun W hW xv hxv => hfl x xv W (hs.later hW) hxv (hcs.2 x hx) (g2 x hx))
    · rw [if_neg (by omega), if_neg (by omega), if_neg (by omega)]
      obtain ⟨s1, s2, s3⟩ := hcm (by omega)
      exact holds_cmp ts ws own kn tv ov wv kv c cv w hs hcr (by omega) k7 _ (fun W hW => compares_s ts ws own kn tv ov wv kv hk c cv W (hs.later hW) (rd_shape hcr) (by omega) k7 s1 s2 s3)
end Go.Proofs.YthndlfdbmljkhaaGreatDoor.Chk
