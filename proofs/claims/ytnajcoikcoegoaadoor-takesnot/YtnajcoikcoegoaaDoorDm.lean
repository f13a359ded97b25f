/-
  Maps by names: patterns that are known, names that are taken. Types are found by a closure.
-/
import Derived.Maps.OwnSet
import Derived.StringKeys
import Derived.Test.YtnajcoikcoegoaaDoorV4D
namespace Go.Proofs.YtnajcoikcoegoaaDoor.Chk
open Go.ChangeShapes Go.WideShapes Go.ChangeAt Go.RowKit Go.Maps
set_option linter.unusedVariables false
set_option linter.unusedSimpArgs false
set_option maxRecDepth 20000
def knV (p : Int × Int) : Value := .agg #[.int .i64 p.1, .int .i64 p.2]
def knD (p : Int × Int) : DataW Unit := .agg [.lit (.int .i64 p.1), .lit (.int .i64 p.2)]
def knE : Value → Option (DataW Unit × List MemPlace)
  | .agg ⟨[.int .i64 a, .int .i64 b]⟩ => some (.agg [.lit (.int .i64 a), .lit (.int .i64 b)], [])
  | _ => none
theorem knE_mk (p : Int × Int) : knE (knV p) = some (knD p, []) := rfl
theorem knE_inv {v : Value} {p : Int × Int} {ps : List MemPlace} (h : knE v = some (knD p, ps)) : v = knV p := by
  unfold knE at h
  split at h
  · simp [knD] at h
    obtain ⟨⟨rfl, rfl⟩, _⟩ := h
    rfl
  · cases h
theorem lawS : Keyed Tryd.prog 9 := string_keyed Tryd.underlying9
theorem zeroK (w : World) : (zeroValue 144).run Tryd.prog w = .ok (knV (0, 0)) w := by kernel_rfl
theorem keyS {s : ByteArray} (h : s.size ≤ maxLen) : keyOf Tryd.prog 9 (.string s) = some (.string s.data.toList) := _root_.Go.WideMaps.keyOf_string_mk Tryd.underlying9 h
theorem litS_ne {x y : List UInt8} (h : x ≠ y) : Lit.string x ≠ Lit.string y := fun e => h (by cases e; rfl)
/-- Names and what is known of them, in their order. -/
abbrev Kns := List (ByteArray × (Int × Int))
def lkp (K : Kns) (x : List UInt8) : Option (Int × Int) := (K.find? fun p => p.1.data.toList == x).map (·.2)
theorem lkp_app (K : Kns) (s : ByteArray) (p : Int × Int) (x : List UInt8) : lkp (K ++ [(s, p)]) x = match lkp K x with | some q => some q | none => if s.data.toList = x then some p else none := by
  unfold lkp
  rw [List.find?_append]
  cases h : K.find? (fun p => p.1.data.toList == x) with
  | some q => rfl
  | none =>
    by_cases c : s.data.toList = x
    · simp [c]
    · simp [c]
/-- The map of what is known. -/
def Km (w : World) (mb : Nat) (K : Kns) (n : Nat) : Prop :=
  ∃ D : DataW Unit, w.ownsMap Tryd.prog 9 knE mb n D ∧ (∀ x, Maps.has D (.string x) = (lkp K x).isSome) ∧ ∀ x p, lkp K x = some p → D.atKey (.string x) (knD (0, 0)) = knD p
theorem Km.block {w w' : World} {mb : Nat} {K : Kns} {n : Nat} (h : Km w mb K n) (e : w'.heap[mb]? = w.heap[mb]?) : Km w' mb K n := by
  obtain ⟨D, ⟨es, clock, hb, r⟩, r2⟩ := h
  exact ⟨D, ⟨es, clock, by rw [e]; exact hb, r⟩, r2⟩
theorem Km.lt {w : World} {mb : Nat} {K : Kns} {n : Nat} (h : Km w mb K n) : mb < w.heap.size := let ⟨_, h, _⟩ := h; h.lt
theorem Km.later {w w' : World} {mb : Nat} {K : Kns} {n : Nat} (h : Km w mb K n) (hb : Below w.heap.size w w') : Km w' mb K n := h.block (hb.block _ h.lt)
theorem km_made (w : World) : Km (w.alloc (.map #[] 0)) w.heap.size [] 0 :=
  ⟨.map [], World.ownsMap_made _ _ _ _, fun x => rfl, fun x p h => by cases h⟩
theorem Km.look {w : World} {mb : Nat} {K : Kns} {n : Nat} (h : Km w mb K n) {s : ByteArray} (hs : s.size ≤ maxLen) :
    (Instr.lookup 116 (.map (some mb)) (.string s) false).run Tryd.prog w = .ok (knV ((lkp K s.data.toList).getD (0, 0))) w := by
  obtain ⟨D, h, h1, h2⟩ := h
  obtain ⟨es, clock, hb, F, hsz, hD⟩ := h
  have key : ∃ v ps, (Instr.lookup 116 (.map (some mb)) (.string s) false).run Tryd.prog w = .ok v w ∧ knE v = some (D.atKey (.string s.data.toList) (knD (0, 0)), ps) := by
    rw [hD]
    rcases Maps.fit_look false lawS Tryd.underlying116 (zeroK w) hb F (keyS hs) with ⟨hrun, _, hat⟩ | ⟨e0, y, _, _, hrun, hRv, hat, _⟩
    · exact ⟨_, [], hrun, by rw [hat (knD (0, 0))]; exact knE_mk (0, 0)⟩
    · exact ⟨_, y.2, hrun, by rw [hat (knD (0, 0))]; exact hRv⟩
  obtain ⟨v, ps, hrun, hv⟩ := key
  rw [hrun]
  have e : v = knV ((lkp K s.data.toList).getD (0, 0)) := by
    cases hm : lkp K s.data.toList with
    | none =>
      have := h1 s.data.toList
      rw [hm] at this
      rw [atKey_of_not_has this] at hv
      exact knE_inv hv
    | some p =>
      rw [h2 _ p hm] at hv
      exact knE_inv hv
  rw [e]
theorem Km.store {w : World} {mb : Nat} {K : Kns} {n : Nat} (h : Km w mb K n) {s : ByteArray} (hs : s.size ≤ maxLen) (hn : n ≤ 2000) (p : Int × Int) (hnew : lkp K s.data.toList = none) :
    ∃ w', (Instr.mapUpdate 116 (.map (some mb)) (.string s) (knV p)).run Tryd.prog w = .ok () w' ∧ Km w' mb (K ++ [(s, p)]) (n + 1) ∧ w.mapTurned w' mb := by
  obtain ⟨D, h, h1, h2⟩ := h
  obtain ⟨w', hrun, ho, ht⟩ := h.store lawS Tryd.underlying116 (by unfold maxLen; omega) (keyS hs) (knE_mk p)
  refine ⟨w', hrun, ⟨D.put (.string s.data.toList) (knD p), ho, fun y => ?_, fun y q hq => ?_⟩, ht⟩
  · rw [lkp_app]
    by_cases e : y = s.data.toList
    · subst e; rw [has_put_same h.isMap (by trivial), hnew]; simp
    · rw [has_put_other (litS_ne e), h1 y]
      cases lkp K y with
      | some q => rfl
      | none => rw [if_neg (fun c => e c.symm)]
  · rw [lkp_app] at hq
    by_cases e : y = s.data.toList
    · subst e; rw [atKey_put_same h.isMap (by trivial)]
      rw [hnew] at hq; simp at hq; rw [hq]
    · rw [atKey_put_other (litS_ne e)]
      cases hk : lkp K y with
      | some r => rw [hk] at hq; simp at hq; subst hq; exact h2 y _ hk
      | none => rw [hk, if_neg (fun c => e c.symm)] at hq; cases hq
/-- What a map's change leaves. -/
theorem fr_turned {w w' : World} {b : Nat} (h : w.mapTurned w' b) : Fr (fun i => i = b) w w' :=
  (Fr.refl (fun i => i = b) w).grown h.grown (fun k hk => by cases hk; exact .inl rfl)
section
variable {ops : Array Oper} {rest : List Oper} {o : Oper} {a : Act} {w : World} {Q : Exit → Act → World → Prop}
theorem wp_lookK (hg : o.guard = none) (m x : Operand) (hop : o.op = Op.lookup 116 m x false) (mb : Nat) (K : Kns) (n : Nat) (hm : a.eval m = .map (some mb)) (h : Km w mb K n) (s : ByteArray) (hs : s.size ≤ maxLen) (hx : a.eval x = .string s)
    (p : Int × Int) (hp : (lkp K s.data.toList).getD (0, 0) = p) (hK : wpList Tryd.prog ops Q rest (a.put o.dst (.agg #[.int .i64 p.1, .int .i64 p.2])) w) : wpList Tryd.prog ops Q (o :: rest) a w := by
  refine wpList_plain hg fun K' hK' => ?_
  subst hp
  unfold Oper.wp
  simp [execOp, hop, hm, hx, h.look hs, Result.andThen]
  exact hK' _ _ hK
theorem wp_storeK (hg : o.guard = none) (m x v : Operand) (hop : o.op = Op.mapUpdate 116 m x v) (mb : Nat) (K : Kns) (n : Nat) (hm : a.eval m = .map (some mb)) (h : Km w mb K n) (hn : n ≤ 2000) (s : ByteArray) (hs : s.size ≤ maxLen) (hx : a.eval x = .string s) (p : Int × Int) (hnew : lkp K s.data.toList = none) (hv : a.eval v = .agg #[.int .i64 p.1, .int .i64 p.2])
    (hK : ∀ w', Km w' mb (K ++ [(s, p)]) (n + 1) → Fr (fun i => i = mb) w w' → wpList Tryd.prog ops Q rest (a.put o.dst undef) w') : wpList Tryd.prog ops Q (o :: rest) a w := by
  refine wpList_plain hg fun K' hK' => ?_
  obtain ⟨w', hrun, r1, r2⟩ := h.store hs hn p hnew
  unfold Oper.wp
  have hv' : a.eval v = knV p := hv
  simp [execOp, hop, hm, hx, hv', hrun, Result.andThen]
  exact hK' _ _ (hK w' r1 (fr_turned r2))
end
/-! Names that are taken: nothing is known of them. -/
def ntE : Value → Option (DataW Unit × List MemPlace)
  | .agg ⟨[]⟩ => some (.agg [], [])
  | _ => none
theorem zeroN (w : World) : (zeroValue 113).run Tryd.prog w = .ok (.agg #[]) w := by kernel_rfl
def Nm (w : World) (mb : Nat) (L : List ByteArray) (n : Nat) : Prop :=
  ∃ D : DataW Unit, w.ownsMap Tryd.prog 9 ntE mb n D ∧ ∀ x, Maps.has D (.string x) = L.any (fun s => s.data.toList == x)
theorem Nm.block {w w' : World} {mb : Nat} {L : List ByteArray} {n : Nat} (h : Nm w mb L n) (e : w'.heap[mb]? = w.heap[mb]?) : Nm w' mb L n := by
  obtain ⟨D, ⟨es, clock, hb, r⟩, r2⟩ := h
  exact ⟨D, ⟨es, clock, by rw [e]; exact hb, r⟩, r2⟩
theorem Nm.lt {w : World} {mb : Nat} {L : List ByteArray} {n : Nat} (h : Nm w mb L n) : mb < w.heap.size := let ⟨_, h, _⟩ := h; h.lt
theorem Nm.later {w w' : World} {mb : Nat} {L : List ByteArray} {n : Nat} (h : Nm w mb L n) (hb : Below w.heap.size w w') : Nm w' mb L n := h.block (hb.block _ h.lt)
theorem nm_made (w : World) : Nm (w.alloc (.map #[] 0)) w.heap.size [] 0 := ⟨.map [], World.ownsMap_made _ _ _ _, fun x => rfl⟩
theorem Nm.look {w : World} {mb : Nat} {L : List ByteArray} {n : Nat} (h : Nm w mb L n) {s : ByteArray} (hs : s.size ≤ maxLen) :
    (Instr.lookup 92 (.map (some mb)) (.string s) true).run Tryd.prog w = .ok (.tuple #[.agg #[], .bool (L.any (fun r => r.data.toList == s.data.toList))]) w := by
  obtain ⟨D, h, h1⟩ := h
  obtain ⟨v, ps, hrun, hv⟩ := h.look_ok lawS Tryd.underlying92 (zeroN w) (show ntE (.agg #[]) = some (.agg [], []) from rfl) (keyS hs)
  rw [hrun, h1]
  have e : v = .agg #[] := by
    unfold ntE at hv
    split at hv
    · rfl
    · cases hv
  rw [e]
theorem Nm.store {w : World} {mb : Nat} {L : List ByteArray} {n : Nat} (h : Nm w mb L n) {s : ByteArray} (hs : s.size ≤ maxLen) (hn : n ≤ 2000) :
    ∃ w', (Instr.mapUpdate 92 (.map (some mb)) (.string s) (.agg #[])).run Tryd.prog w = .ok () w' ∧ Nm w' mb (L ++ [s]) (n + 1) ∧ w.mapTurned w' mb := by
  obtain ⟨D, h, h1⟩ := h
  obtain ⟨w', hrun, ho, ht⟩ := h.store lawS Tryd.underlying92 (by unfold maxLen; omega) (keyS hs) (show ntE (.agg #[]) = some (.agg [], []) from rfl)
  refine ⟨w', hrun, ⟨D.put (.string s.data.toList) (.agg []), ho, fun y => ?_⟩, ht⟩
  by_cases e : y = s.data.toList
  · subst e; rw [has_put_same h.isMap (by trivial)]; simp
  · rw [has_put_other (litS_ne e), h1 y]
    have : (s.data.toList == y) = false := by simpa using fun c => e c.symm
    simp [this]
section
variable {ops : Array Oper} {rest : List Oper} {o : Oper} {a : Act} {w : World} {Q : Exit → Act → World → Prop}
theorem wp_lookN (hg : o.guard = none) (m x : Operand) (hop : o.op = Op.lookup 92 m x true) (mb : Nat) (L : List ByteArray) (n : Nat) (hm : a.eval m = .map (some mb)) (h : Nm w mb L n) (s : ByteArray) (hs : s.size ≤ maxLen) (hx : a.eval x = .string s)
    (b : Bool) (hb : L.any (fun r => r.data.toList == s.data.toList) = b) (hK : wpList Tryd.prog ops Q rest (a.put o.dst (.tuple #[.agg #[], .bool b])) w) : wpList Tryd.prog ops Q (o :: rest) a w := by
  refine wpList_plain hg fun K' hK' => ?_
  have hl := h.look hs
  rw [hb] at hl
  unfold Oper.wp
  simp [execOp, hop, hm, hx, hl, Result.andThen]
  exact hK' _ _ hK
theorem wp_storeN (hg : o.guard = none) (m x v : Operand) (hop : o.op = Op.mapUpdate 92 m x v) (mb : Nat) (L : List ByteArray) (n : Nat) (hm : a.eval m = .map (some mb)) (h : Nm w mb L n) (hn : n ≤ 2000) (s : ByteArray) (hs : s.size ≤ maxLen) (hx : a.eval x = .string s) (hv : a.eval v = .agg #[])
    (hK : ∀ w', Nm w' mb (L ++ [s]) (n + 1) → Fr (fun i => i = mb) w w' → wpList Tryd.prog ops Q rest (a.put o.dst undef) w') : wpList Tryd.prog ops Q (o :: rest) a w := by
  refine wpList_plain hg fun K' hK' => ?_
  obtain ⟨w', hrun, r1, r2⟩ := h.store hs hn
  unfold Oper.wp
  simp [execOp, hop, hm, hx, hv, hrun, Result.andThen]
  exact hK' _ _ (hK w' r1 (fr_turned r2))
end
set_option maxHeartbeats 4000000 in
theorem finder_any (p : Option Addr) (n c : Nat) (w : World) : Calls Tryd.prog 36 #[.slice p n c] w fun e w' => e = .returned (.func (.func 57) #[] #[.pointer (some ⟨w.heap.size, 0, none⟩)]) ∧ w' = w.alloc (.cells #[.slice p n c] 43) := by
  go_enter Tryd.func36, Tryd.ntmps36
  go_wp2_with fail
  go_ret
  exact ⟨rfl, rfl⟩
set_option maxHeartbeats 4000000 in
theorem eqName_any (tn nm : ByteArray) (p : Option Addr) (n c b : Nat) (w : World) (h : w.cell? ⟨b, 0, none⟩ = some (.string nm)) : Calls Tryd.prog 59 #[.agg #[.string tn, .slice p n c], .pointer (some ⟨b, 0, none⟩)] w fun e w' => e = .returned (.bool (seq tn nm)) ∧ Below w.heap.size w w' := by
  have hb := World.block_lt_of_cell? _ _ h
  have h' : (w.alloc (.cells #[.string tn, .slice p n c] 72)).cell? ⟨b, 0, none⟩ = some (.string nm) := (((Below.refl w.heap.size w).alloc (Nat.le_refl _) _).cell (p := ⟨b, 0, none⟩) hb).trans h
  unfold seq
  go_enter Tryd.func59, Tryd.ntmps59
  go_wp2_with fail
  go_ret
  exact ⟨rfl, (Below.refl _ _).alloc (Nat.le_refl _) _⟩
set_option maxHeartbeats 8000000 in
theorem indexType_any (ts : List Tp) (v : Value) (nm : ByteArray) (b : Nat) (w : World) (h : Rd w (.row 72 2 (ts.map encY)) v) (hn : w.cell? ⟨b, 0, none⟩ = some (.string nm)) :
    Calls Tryd.prog 58 #[v, .func (.func 59) #[] #[.pointer (some ⟨b, 0, none⟩)]] w fun e w' => e = .returned (.int .i64 (tyq ts nm)) ∧ Below w.heap.size w w' := by
  obtain ⟨p, cap, rfl, hmx, hat⟩ := rd_row lenY h
  have HAT : Hid (At encY 2 w p ts) := hat
  obtain ⟨n, hnl⟩ : ∃ n, ts.length = n := ⟨_, rfl⟩
  have HN := hid hnl
  have HNM := hid hn
  rw [hnl] at hmx ⊢
  clear h hat hnl hn
  go_enter Tryd.func58, Tryd.ntmps58
  go_wp2_with fail
  go_loopg [8] (n + 1) (fun gg i wr => ∃ k : Nat, k ≤ n ∧ gg = n + 1 - k ∧ i = .int .i64 (k : Nat) ∧ (∀ (j : Nat) (hj : j < ts.length), j < k → seq ts[j].n nm = false) ∧ Below w.heap.size w wr)
  case atStart => exact ⟨0, by omega, by omega, rfl, fun j _ h => by omega, Below.refl _ _⟩
  case round =>
    obtain ⟨k, hk, rfl, rfl, hno, hB⟩ := hrel
    have HB := hid hB
    by_cases hlt : k < n
    · have hkc : k < ts.length := by have := HN.out; omega
      obtain ⟨g, off, rfl, hrd⟩ := HAT.out (by omega)
      obtain ⟨us, r1, o1⟩ := hrd wr hB k hkc
      obtain ⟨fv, z1, o2⟩ := rdY o1
      obtain ⟨fp, fn, fc, rfl⟩ := rd_shape o2
      rw [z1] at r1
      have c0 : wr.cell? ⟨g, off + k * 2, none⟩ = some (.string ts[k].n) := by simpa using r1 0 _ rfl
      have c1 : wr.cell? ⟨g, off + k * 2 + 1, none⟩ = some (.slice fp fn fc) := r1 1 _ rfl
      have HCM := hid (eqName_any ts[k].n nm fp fn fc b wr ((hB.cell (p := ⟨b, 0, none⟩) (World.block_lt_of_cell? _ _ HNM.out)).trans HNM.out))
      have HNO := hid hno
      obtain ⟨q, hq⟩ : ∃ q, seq ts[k].n nm = q := ⟨_, rfl⟩
      have HQ := hid hq
      rw [hq] at HCM
      have HQ2 : Hid (∀ x, x = ts[k].n → seq x nm = q) := fun x hx => by rw [hx]; exact HQ.out
      obtain ⟨tn, htn⟩ : ∃ tn, ts[k].n = tn := ⟨_, rfl⟩
      have HQK : Hid (seq ts[k].n nm = q) := HQ.out
      rw [htn] at c0 HCM
      clear htn HQ HQ2
      have i1 : (0 : Int) ≤ (k : Int) := by omega
      have i2 : (k : Int) < (n : Int) := by omega
      clear hno hB hrd o1 o2 z1 r1 hq
      cases q with
      | true =>
        go_wp2_with (go_at_call 59; refine HCM.out.mono ?_; rintro e w2 ⟨rfl, hb2⟩; have HB2 := hid (below_trans HB.out hb2 HB.out.size); clear hb2)
        go_ret
        exact ⟨ret_int (by show (k : Int) = ixq _ _ _; rw [ixq_hit (q := fun t : Tp => seq t.n nm) ts 0 k hkc (fun j hj => HNO.out j (by omega) hj) (by exact HQK.out)]; simp), HB2.out⟩
      | false =>
        go_wp2_with (go_at_call 59; refine HCM.out.mono ?_; rintro e w2 ⟨rfl, hb2⟩; have HB2 := hid (below_trans HB.out hb2 HB.out.size); clear hb2)
        go_roundg (n + 1 - (k + 1))
        case rel =>
          refine ⟨k + 1, by omega, rfl, by go_num, fun j hj hjk => ?_, HB2.out⟩
          by_cases c : j < k
          · exact HNO.out j hj c
          · obtain rfl : j = k := by omega
            exact HQK.out
        case measure => omega
    · obtain rfl : k = n := by omega
      have HR := hid (show tyq ts nm = -1 from ixq_none _ _ (fun x hx => by
        obtain ⟨j, hj, rfl⟩ := List.getElem_of_mem hx
        exact hno j hj (by have := HN.out; omega)))
      clear hno hB
      go_wp2_with fail
      go_ret
      exact ⟨ret_int HR.out.symm, HB.out⟩
set_option maxHeartbeats 4000000 in
theorem find_any (ts : List Tp) (tv : Value) (nm : ByteArray) (b : Nat) (w : World) (h : Rd w (.row 72 2 (ts.map encY)) tv) (hb : w.cell? ⟨b, 0, none⟩ = some tv) :
    Calls Tryd.prog 57 #[.string nm, .pointer (some ⟨b, 0, none⟩)] w fun e w' => e = .returned (.int .i64 (tyq ts nm)) ∧ Below w.heap.size w w' := by
  have hB : Below w.heap.size w (w.alloc (.cells #[.string nm] 9)) := (Below.refl _ _).alloc (Nat.le_refl _) _
  have h2 := indexType_any ts tv nm w.heap.size (w.alloc (.cells #[.string nm] 9)) (h.later hB) (cell_of_blk (heap_alloc_new _ _) 0)
  obtain ⟨p, cap, rfl, _, _⟩ := rd_row lenY h
  have hb' : (w.alloc (.cells #[.string nm] 9)).cell? ⟨b, 0, none⟩ = some (.slice p ts.length cap) := (hB.cell (p := ⟨b, 0, none⟩) (World.block_lt_of_cell? _ _ hb)).trans hb
  have HC := hid h2
  have HB := hid hB
  clear h2 hB h hb
  go_enter Tryd.func57, Tryd.ntmps57
  go_wp2_with fail
  refine HC.out.mono ?_
  rintro e w2 ⟨rfl, hb2⟩
  have HB2 := hid (below_trans HB.out hb2 HB.out.size)
  clear hb2
  go_wp2_with fail
  go_ret
  exact ⟨rfl, HB2.out⟩
end Go.Proofs.YtnajcoikcoegoaaDoor.Chk
