/-
  Maps by names: patterns that are known, names that are taken. Types are found by a closure. A side of a comparison, by the program.
-/
import Derived.Maps.OwnSet
import Derived.StringKeys
import Derived.Deep.RegionHeld3
import Derived.Test.YtnlmknbhppdliaaDoorV4B
set_option maxHeartbeats 64000000
namespace Go.Proofs.YtnlmknbhppdliaaDoor.Chk
open Go.ChangeShapes Go.WideShapes Go.ChangeAt Go.RowKit Go.Maps
set_option linter.unusedVariables false
set_option linter.unusedSimpArgs false
set_option maxRecDepth 20000
def knV (p : Int × Int) : Value := .agg #[.int .i64 p.1, .int .i64 p.2]
def knD (p : Int × Int) : DataW Unit := .agg [.lit (.int .i64 p.1), .lit (.int .i64 p.2)]
def knE : Value → Option (DataW Unit × List MemPlace)
  | .agg ⟨[.int .i64 a, .int .i64 b]⟩ => some (.agg [.lit (.int .i64 a), .lit (.int .i64 b)], [])
  | _ => none
theorem knE_mk (p : Int × Int) : knE (knV p) = some (knD p, []) := rfl
theorem zG6 {v : Value} {p : Int × Int} {ps : List MemPlace} (h : knE v = some (knD p, ps)) : v = knV p := by
 unfold knE at h
 split at h
 . simp [knD] at h
   obtain ⟨⟨rfl, rfl⟩, _⟩ := h
   rfl
 . cases h
theorem lawS : Keyed Tryd.prog 9 := string_keyed Tryd.underlying9
theorem zeroK (w : World) : (zeroValue 144).run Tryd.prog w = .ok (knV (0, 0)) w := by kernel_rfl
theorem keyS {s : ByteArray} (h : s.size ≤ maxLen) : keyOf Tryd.prog 9 (.string s) = some (.string s.data.toList) := _root_.Go.WideMaps.keyOf_string_mk Tryd.underlying9 h
theorem zFO {x y : List UInt8} (h : x ≠ y) : Lit.string x ≠ Lit.string y := fun e => h (by cases e; rfl)
abbrev Kns := List (ByteArray × (Int × Int))
def lkp (K : Kns) (x : List UInt8) : Option (Int × Int) := (K.find? fun p => p.1.data.toList == x).map (·.2)
theorem zHA (K : Kns) (s : ByteArray) (p : Int × Int) (x : List UInt8) : lkp (K ++ [(s, p)]) x = match lkp K x with | some q => some q | none => if s.data.toList = x then some p else none := by
 unfold lkp
 rw [List.find?_append]
 cases h : K.find? (fun p => p.1.data.toList == x) with
 | some q => rfl
 | none =>
  by_cases c : s.data.toList = x
  . simp [c]
  . simp [c]
def Km (w : World) (mb : Nat) (K : Kns) (n : Nat) : Prop :=
  ∃ D : DataW Unit, w.ownsMap Tryd.prog 9 knE mb n D ∧ (∀ x, Maps.has D (.string x) = (lkp K x).isSome) ∧ ∀ x p, lkp K x = some p → D.atKey (.string x) (knD (0, 0)) = knD p
theorem Km.block {w w' : World} {mb : Nat} {K : Kns} {n : Nat} (h : Km w mb K n) (e : w'.heap[mb]? = w.heap[mb]?) : Km w' mb K n := by
  obtain ⟨D, ⟨es, clock, hb, r⟩, r2⟩ := h
  exact ⟨D, ⟨es, clock, by rw [e]; exact hb, r⟩, r2⟩
theorem Km.lt {w : World} {mb : Nat} {K : Kns} {n : Nat} (h : Km w mb K n) : mb < w.heap.size := let ⟨_, h, _⟩ := h; h.lt
theorem Km.later {w w' : World} {mb : Nat} {K : Kns} {n : Nat} (h : Km w mb K n) (hb : Below w.heap.size w w') : Km w' mb K n := h.block (hb.block _ h.lt)
theorem km_made (w : World) : Km (w.alloc (.map #[] 0)) w.heap.size [] 0 :=
  ⟨.map [], World.ownsMap_made _ _ _ _, fun x => rfl, fun x p h => by cases h⟩
theorem Km.look {w : World} {mb : Nat} {K : Kns} {n : Nat} (h : Km w mb K n) {s : ByteArray} (hs : s.size ≤ maxLen) :
  (Instr.lookup 117 (.map (some mb)) (.string s) false).run Tryd.prog w = .ok (knV ((lkp K s.data.toList).getD (0, 0))) w := by
 obtain ⟨D, h, h1, h2⟩ := h
 obtain ⟨es, clock, hb, F, hsz, hD⟩ := h
 have key : ∃ v ps, (Instr.lookup 117 (.map (some mb)) (.string s) false).run Tryd.prog w = .ok v w ∧ knE v = some (D.atKey (.string s.data.toList) (knD (0, 0)), ps) := by
  rw [hD]
  rcases Maps.fit_look false lawS Tryd.underlying117 (zeroK w) hb F (keyS hs) with ⟨hrun, _, hat⟩ | ⟨e0, y, _, _, hrun, hRv, hat, _⟩
  . exact ⟨_, [], hrun, by rw [hat (knD (0, 0))]; exact knE_mk (0, 0)⟩
  . exact ⟨_, y.2, hrun, by rw [hat (knD (0, 0))]; exact hRv⟩
 obtain ⟨v, ps, hrun, hv⟩ := key
 rw [hrun]
 have e : v = knV ((lkp K s.data.toList).getD (0, 0)) := by
  cases hm : lkp K s.data.toList with
  | none =>
    have := h1 s.data.toList
    rw [hm] at this
    rw [atKey_of_not_has this] at hv
    exact zG6 hv
  | some p =>
    rw [h2 _ p hm] at hv
    exact zG6 hv
 rw [e]
theorem Km.store {w : World} {mb : Nat} {K : Kns} {n : Nat} (h : Km w mb K n) {s : ByteArray} (hs : s.size ≤ maxLen) (hn : n ≤ 2000) (p : Int × Int) (hnew : lkp K s.data.toList = none) :
   ∃ w', (Instr.mapUpdate 117 (.map (some mb)) (.string s) (knV p)).run Tryd.prog w = .ok () w' ∧ Km w' mb (K ++ [(s, p)]) (n + 1) ∧ w.mapTurned w' mb := by
 obtain ⟨D, h, h1, h2⟩ := h
 obtain ⟨w', hrun, ho, ht⟩ := h.store lawS Tryd.underlying117 (by unfold maxLen; omega) (keyS hs) (knE_mk p)
 refine ⟨w', hrun, ⟨D.put (.string s.data.toList) (knD p), ho, fun y => ?_, fun y q hq => ?_⟩, ht⟩
 . rw [zHA]
   by_cases e : y = s.data.toList
   . subst e; rw [has_put_same h.isMap (by trivial), hnew]; simp
   . rw [has_put_other (zFO e), h1 y]
     cases lkp K y with
     | some q => rfl
     | none => rw [if_neg (fun c => e c.symm)]
 . rw [zHA] at hq
   by_cases e : y = s.data.toList
   . subst e; rw [atKey_put_same h.isMap (by trivial)]
     rw [hnew] at hq; simp at hq; rw [hq]
   . rw [atKey_put_other (zFO e)]
     cases hk : lkp K y with
     | some r => rw [hk] at hq; simp at hq; subst hq; exact h2 y _ hk
     | none => rw [hk, if_neg (fun c => e c.symm)] at hq; cases hq
theorem zE5 {w w' : World} {b : Nat} (h : w.mapTurned w' b) : Fr (fun i => i = b) w w' :=
  (Fr.refl (fun i => i = b) w).grown h.grown (fun k hk => by cases hk; exact .inl rfl)
section
variable {ops : Array Oper} {rest : List Oper} {o : Oper} {a : Act} {w : World} {Q : Exit → Act → World → Prop}
theorem zBE (hg : o.guard = none) (m x : Operand) (hop : o.op = Op.lookup 117 m x false) (mb : Nat) (K : Kns) (n : Nat) (hm : a.eval m = .map (some mb)) (h : Km w mb K n) (s : ByteArray) (hs : s.size ≤ maxLen) (hx : a.eval x = .string s)
  (p : Int × Int) (hp : (lkp K s.data.toList).getD (0, 0) = p) (hK : wpList Tryd.prog ops Q rest (a.put o.dst (.agg #[.int .i64 p.1, .int .i64 p.2])) w) : wpList Tryd.prog ops Q (o :: rest) a w := by
 refine wpList_plain hg fun K' hK' => ?_
 subst hp
 unfold Oper.wp
 simp [execOp, hop, hm, hx, h.look hs, Result.andThen]
 exact hK' _ _ hK
theorem zHQ (hg : o.guard = none) (m x v : Operand) (hop : o.op = Op.mapUpdate 117 m x v) (mb : Nat) (K : Kns) (n : Nat) (hm : a.eval m = .map (some mb)) (h : Km w mb K n) (hn : n ≤ 2000) (s : ByteArray) (hs : s.size ≤ maxLen) (hx : a.eval x = .string s) (p : Int × Int) (hnew : lkp K s.data.toList = none) (hv : a.eval v = .agg #[.int .i64 p.1, .int .i64 p.2])
  (hK : ∀ w', Km w' mb (K ++ [(s, p)]) (n + 1) → Fr (fun i => i = mb) w w' → wpList Tryd.prog ops Q rest (a.put o.dst undef) w') : wpList Tryd.prog ops Q (o :: rest) a w := by
 refine wpList_plain hg fun K' hK' => ?_
 obtain ⟨w', hrun, r1, r2⟩ := h.store hs hn p hnew
 unfold Oper.wp
 have hv' : a.eval v = knV p := hv
 simp [execOp, hop, hm, hx, hv', hrun, Result.andThen]
 exact hK' _ _ (hK w' r1 (zE5 r2))
end
/-! Names that are taken: nothing is known of them. -/
def ntE : Value → Option (DataW Unit × List MemPlace)
  | .agg ⟨[]⟩ => some (.agg [], [])
  | _ => none
theorem zeroN (w : World) : (zeroValue 114).run Tryd.prog w = .ok (.agg #[]) w := by kernel_rfl
def Nm (w : World) (mb : Nat) (L : List ByteArray) (n : Nat) : Prop :=
  ∃ D : DataW Unit, w.ownsMap Tryd.prog 9 ntE mb n D ∧ ∀ x, Maps.has D (.string x) = L.any (fun s => s.data.toList == x)
theorem Nm.block {w w' : World} {mb : Nat} {L : List ByteArray} {n : Nat} (h : Nm w mb L n) (e : w'.heap[mb]? = w.heap[mb]?) : Nm w' mb L n := by
  obtain ⟨D, ⟨es, clock, hb, r⟩, r2⟩ := h
  exact ⟨D, ⟨es, clock, by rw [e]; exact hb, r⟩, r2⟩
theorem Nm.lt {w : World} {mb : Nat} {L : List ByteArray} {n : Nat} (h : Nm w mb L n) : mb < w.heap.size := let ⟨_, h, _⟩ := h; h.lt
theorem Nm.later {w w' : World} {mb : Nat} {L : List ByteArray} {n : Nat} (h : Nm w mb L n) (hb : Below w.heap.size w w') : Nm w' mb L n := h.block (hb.block _ h.lt)
theorem zIG (w : World) : Nm (w.alloc (.map #[] 0)) w.heap.size [] 0 := ⟨.map [], World.ownsMap_made _ _ _ _, fun x => rfl⟩
theorem Nm.look {w : World} {mb : Nat} {L : List ByteArray} {n : Nat} (h : Nm w mb L n) {s : ByteArray} (hs : s.size ≤ maxLen) :
  (Instr.lookup 93 (.map (some mb)) (.string s) true).run Tryd.prog w = .ok (.tuple #[.agg #[], .bool (L.any (fun r => r.data.toList == s.data.toList))]) w := by
 obtain ⟨D, h, h1⟩ := h
 obtain ⟨v, ps, hrun, hv⟩ := h.look_ok lawS Tryd.underlying93 (zeroN w) (show ntE (.agg #[]) = some (.agg [], []) from rfl) (keyS hs)
 rw [hrun, h1]
 have e : v = .agg #[] := by
  unfold ntE at hv
  split at hv
  . rfl
  . cases hv
 rw [e]
theorem Nm.store {w : World} {mb : Nat} {L : List ByteArray} {n : Nat} (h : Nm w mb L n) {s : ByteArray} (hs : s.size ≤ maxLen) (hn : n ≤ 2000) :
   ∃ w', (Instr.mapUpdate 93 (.map (some mb)) (.string s) (.agg #[])).run Tryd.prog w = .ok () w' ∧ Nm w' mb (L ++ [s]) (n + 1) ∧ w.mapTurned w' mb := by
 obtain ⟨D, h, h1⟩ := h
 obtain ⟨w', hrun, ho, ht⟩ := h.store lawS Tryd.underlying93 (by unfold maxLen; omega) (keyS hs) (show ntE (.agg #[]) = some (.agg [], []) from rfl)
 refine ⟨w', hrun, ⟨D.put (.string s.data.toList) (.agg []), ho, fun y => ?_⟩, ht⟩
 by_cases e : y = s.data.toList
 . subst e; rw [has_put_same h.isMap (by trivial)]; simp
 . rw [has_put_other (zFO e), h1 y]
   have : (s.data.toList == y) = false := by simpa using fun c => e c.symm
   simp [this]
section
variable {ops : Array Oper} {rest : List Oper} {o : Oper} {a : Act} {w : World} {Q : Exit → Act → World → Prop}
theorem zF8 (hg : o.guard = none) (m x : Operand) (hop : o.op = Op.lookup 93 m x true) (mb : Nat) (L : List ByteArray) (n : Nat) (hm : a.eval m = .map (some mb)) (h : Nm w mb L n) (s : ByteArray) (hs : s.size ≤ maxLen) (hx : a.eval x = .string s)
  (b : Bool) (hb : L.any (fun r => r.data.toList == s.data.toList) = b) (hK : wpList Tryd.prog ops Q rest (a.put o.dst (.tuple #[.agg #[], .bool b])) w) : wpList Tryd.prog ops Q (o :: rest) a w := by
 refine wpList_plain hg fun K' hK' => ?_
 have hl := h.look hs
 rw [hb] at hl
 unfold Oper.wp
 simp [execOp, hop, hm, hx, hl, Result.andThen]
 exact hK' _ _ hK
theorem zID (hg : o.guard = none) (m x v : Operand) (hop : o.op = Op.mapUpdate 93 m x v) (mb : Nat) (L : List ByteArray) (n : Nat) (hm : a.eval m = .map (some mb)) (h : Nm w mb L n) (hn : n ≤ 2000) (s : ByteArray) (hs : s.size ≤ maxLen) (hx : a.eval x = .string s) (hv : a.eval v = .agg #[])
  (hK : ∀ w', Nm w' mb (L ++ [s]) (n + 1) → Fr (fun i => i = mb) w w' → wpList Tryd.prog ops Q rest (a.put o.dst undef) w') : wpList Tryd.prog ops Q (o :: rest) a w := by
 refine wpList_plain hg fun K' hK' => ?_
 obtain ⟨w', hrun, r1, r2⟩ := h.store hs hn
 unfold Oper.wp
 simp [execOp, hop, hm, hx, hv, hrun, Result.andThen]
 exact hK' _ _ (hK w' r1 (zE5 r2))
end
theorem zDI (p : Option Addr) (n c : Nat) (w : World) : Calls Tryd.prog 37 #[.slice p n c] w fun e w' => e = .returned (.func (.func 58) #[] #[.pointer (some ⟨w.heap.size, 0, none⟩)]) ∧ w' = w.alloc (.cells #[.slice p n c] 43) := by
  go_enter Tryd.func37, Tryd.ntmps37
  go_wp2_with fail
  go_ret
  exact ⟨rfl, rfl⟩
theorem zGI (tn nm : ByteArray) (p : Option Addr) (n c b : Nat) (w : World) (h : w.cell? ⟨b, 0, none⟩ = some (.string nm)) : Calls Tryd.prog 60 #[.agg #[.string tn, .slice p n c], .pointer (some ⟨b, 0, none⟩)] w fun e w' => e = .returned (.bool (seq tn nm)) ∧ Below w.heap.size w w' := by
  have hb := World.block_lt_of_cell? _ _ h
  have h' : (w.alloc (.cells #[.string tn, .slice p n c] 72)).cell? ⟨b, 0, none⟩ = some (.string nm) := (((Below.refl w.heap.size w).alloc (Nat.le_refl _) _).cell (p := ⟨b, 0, none⟩) hb).trans h
  unfold seq
  go_enter Tryd.func60, Tryd.ntmps60
  go_wp2_with fail
  go_ret
  exact ⟨rfl, (Below.refl _ _).alloc (Nat.le_refl _) _⟩
theorem zD4 (ts : List Tp) (v : Value) (nm : ByteArray) (b : Nat) (w : World) (h : Rd w (.row 72 2 (ts.map encY)) v) (hn : w.cell? ⟨b, 0, none⟩ = some (.string nm)) :
  Calls Tryd.prog 59 #[v, .func (.func 60) #[] #[.pointer (some ⟨b, 0, none⟩)]] w fun e w' => e = .returned (.int .i64 (tyq ts nm)) ∧ Below w.heap.size w w' := by
 obtain ⟨p, cap, rfl, hmx, hat⟩ := zAG lenY h
 have HAT : Hid (At encY 2 w p ts) := hat
 obtain ⟨n, hnl⟩ : ∃ n, ts.length = n := ⟨_, rfl⟩
 have HN := hid hnl
 have HNM := hid hn
 rw [hnl] at hmx ⊢
 clear h hat hnl hn
 go_enter Tryd.func59, Tryd.ntmps59
 go_wp2_with fail
 go_loopg [8] (n + 1) (fun gg i wr => ∃ k : Nat, k ≤ n ∧ gg = n + 1 - k ∧ i = .int .i64 (k : Nat) ∧ (∀ (j : Nat) (hj : j < ts.length), j < k → seq ts[j].n nm = false) ∧ Below w.heap.size w wr)
 case atStart => exact ⟨0, by omega, by omega, rfl, fun j _ h => by omega, Below.refl _ _⟩
 case round =>
  obtain ⟨k, hk, rfl, rfl, hno, hB⟩ := hrel
  have HB := hid hB
  by_cases hlt : k < n
  . have hkc : k < ts.length := by have := HN.out; omega
    obtain ⟨g, off, rfl, hrd⟩ := HAT.out (by omega)
    obtain ⟨us, r1, o1⟩ := hrd wr hB k hkc
    obtain ⟨fv, z1, o2⟩ := rdY o1
    obtain ⟨fp, fn, fc, rfl⟩ := zAB o2
    rw [z1] at r1
    have c0 : wr.cell? ⟨g, off + k * 2, none⟩ = some (.string ts[k].n) := by simpa using r1 0 _ rfl
    have c1 : wr.cell? ⟨g, off + k * 2 + 1, none⟩ = some (.slice fp fn fc) := r1 1 _ rfl
    have HCM := hid (zGI ts[k].n nm fp fn fc b wr ((hB.cell (p := ⟨b, 0, none⟩) (World.block_lt_of_cell? _ _ HNM.out)).trans HNM.out))
    have HNO := hid hno
    obtain ⟨q, hq⟩ : ∃ q, seq ts[k].n nm = q := ⟨_, rfl⟩
    have HQ := hid hq
    rw [hq] at HCM
    have HQ2 : Hid (∀ x, x = ts[k].n → seq x nm = q) := fun x hx => by rw [hx]; exact HQ.out
    obtain ⟨tn, htn⟩ : ∃ tn, ts[k].n = tn := ⟨_, rfl⟩
    have HQK : Hid (seq ts[k].n nm = q) := HQ.out
    rw [htn] at c0 HCM
    clear htn HQ HQ2
    have i1 : (0 : Int) ≤ (k : Int) := by omega
    have i2 : (k : Int) < (n : Int) := by omega
    clear hno hB hrd o1 o2 z1 r1 hq
    cases q with
    | true =>
     go_wp2_with (go_at_call 60; refine HCM.out.mono ?_; rintro e w2 ⟨rfl, hb2⟩; have HB2 := hid (zAA HB.out hb2 HB.out.size); clear hb2)
     go_ret
     exact ⟨zAC (by show (k : Int) = ixq _ _ _; rw [zB2 (q := fun t : Tp => seq t.n nm) ts 0 k hkc (fun j hj => HNO.out j (by omega) hj) (by exact HQK.out)]; simp), HB2.out⟩
    | false =>
     go_wp2_with (go_at_call 60; refine HCM.out.mono ?_; rintro e w2 ⟨rfl, hb2⟩; have HB2 := hid (zAA HB.out hb2 HB.out.size); clear hb2)
     go_roundg (n + 1 - (k + 1))
     case rel =>
      refine ⟨k + 1, by omega, rfl, by go_num, fun j hj hjk => ?_, HB2.out⟩
      by_cases c : j < k
      . exact HNO.out j hj c
      . obtain rfl : j = k := by omega
        exact HQK.out
     case measure => omega
  . obtain rfl : k = n := by omega
    have HR := hid (show tyq ts nm = -1 from zBL _ _ (fun x hx => by
     obtain ⟨j, hj, rfl⟩ := List.getElem_of_mem hx
     exact hno j hj (by have := HN.out; omega)))
    clear hno hB
    go_wp2_with fail
    go_ret
    exact ⟨zAC HR.out.symm, HB.out⟩
theorem zBH (ts : List Tp) (tv : Value) (nm : ByteArray) (b : Nat) (w : World) (h : Rd w (.row 72 2 (ts.map encY)) tv) (hb : w.cell? ⟨b, 0, none⟩ = some tv) :
  Calls Tryd.prog 58 #[.string nm, .pointer (some ⟨b, 0, none⟩)] w fun e w' => e = .returned (.int .i64 (tyq ts nm)) ∧ Below w.heap.size w w' := by
 have hB : Below w.heap.size w (w.alloc (.cells #[.string nm] 9)) := (Below.refl _ _).alloc (Nat.le_refl _) _
 have h2 := zD4 ts tv nm w.heap.size (w.alloc (.cells #[.string nm] 9)) (h.later hB) (zAD (heap_alloc_new _ _) 0)
 obtain ⟨p, cap, rfl, _, _⟩ := zAG lenY h
 have hb' : (w.alloc (.cells #[.string nm] 9)).cell? ⟨b, 0, none⟩ = some (.slice p ts.length cap) := (hB.cell (p := ⟨b, 0, none⟩) (World.block_lt_of_cell? _ _ hb)).trans hb
 have HC := hid h2
 have HB := hid hB
 clear h2 hB h hb
 go_enter Tryd.func58, Tryd.ntmps58
 go_wp2_with fail
 refine HC.out.mono ?_
 rintro e w2 ⟨rfl, hb2⟩
 have HB2 := hid (zAA HB.out hb2 HB.out.size)
 clear hb2
 go_wp2_with fail
 go_ret
 exact ⟨rfl, HB2.out⟩
structure Scp (w : World) (ts : List Tp) (tv : Value) (b mb : Nat) (K : Kns) (n : Nat) : Prop where
  rt : Rd w (.row 72 2 (ts.map encY)) tv
  fd : w.cell? ⟨b, 0, none⟩ = some tv
  km : Km w mb K n
  tk : Tab w 0 kpl
  tr : Tab w 1 rll
theorem zAI {w w' : World} {g : Nat} {l : List (List UInt8)} (h : Tab w g l) (hb : Below w.heap.size w w') : Tab w' g l := h.fr (X := fun _ => False) (Fr.of_below hb) (fun c => c)
theorem Scp.later {w w' : World} {ts : List Tp} {tv : Value} {b mb n : Nat} {K : Kns} (h : Scp w ts tv b mb K n) (hb : Below w.heap.size w w') : Scp w' ts tv b mb K n :=
  ⟨h.rt.later hb, (hb.cell (p := ⟨b, 0, none⟩) (World.block_lt_of_cell? _ _ h.fd)).trans h.fd, h.km.later hb, zAI h.tk hb, zAI h.tr hb⟩
abbrev scV (tv : Value) (b mb : Nat) : Value := .agg #[tv, .func (.func 58) #[] #[.pointer (some ⟨b, 0, none⟩)], .map (some mb)]
def Knw (ts : List Tp) (ws : List Pt) (K : Kns) : Prop :=
  (∀ va : ByteArray, ptq ws va < 0 → ((lkp K va.data.toList).getD (0, 0)).1 ≠ 1) ∧ ∀ (va : ByteArray) (j : Nat) (hj : j < ws.length), ptq ws va = (j : Int) → lkp K va.data.toList = some (1, tyq ts ws[j].ty)
theorem vck_eq (vk vi : Int) (vt : ByteArray) : V4.vchk ⟨vk, vi, vt⟩ = vck vk vi vt := by
 unfold V4.vchk vck
 simp only
 by_cases h1 : vk = 1
 . subst h1
   rw [if_neg (by omega), if_pos rfl]
   by_cases he : emp vt = true
   . have e0 := zC4 he
     have hs := V4.size_nil e0
     have hf : ¬ emp vt = false := by rw [he]; decide
     rw [if_neg (by simp [e0]), if_neg (by omega), if_neg hf]
     by_cases hr : -1125899906842624 ≤ vi ∧ vi ≤ 1125899906842624
     . rw [if_neg (by omega), if_pos hr]
     . rw [if_pos (by omega), if_neg hr]
   . have he' : emp vt = false := by simpa using he
     rw [if_pos (.inl ⟨rfl, (zEL he').1⟩), if_pos he']
 . rw [if_neg h1]
   by_cases h2 : vk = 2
   . subst h2
     rw [if_neg (by omega), if_pos rfl]
     by_cases h0 : vi = 0
     . subst h0
       rw [if_neg (by simp), if_pos rfl]
       by_cases hs : 20 < vt.size
       . rw [if_pos hs, if_pos hs]
       . rw [if_neg hs, if_neg hs, if_neg (by decide)]
     . rw [if_pos (.inr ⟨rfl, h0⟩), if_neg h0]
   . rw [if_pos ⟨h1, h2⟩, if_neg h2]
theorem zGP (vk vi : Int) (vt : ByteArray) (w : World) : Calls Tryd.prog 62 #[.agg #[.int .i64 vk, .int .i64 vi, .string vt]] w fun e w' => e = .returned (.int .i64 (vck vk vi vt)) ∧ Below w.heap.size w w' := by
  have := V4.check_any ⟨vk, vi, vt⟩ w
  rw [vck_eq] at this
  exact this
theorem pside_k (ts : List Tp) (tp : Option Addr) (tn tc b mb : Nat) (K : Kns) (n : Nat) (on : ByteArray) (fp : Option Addr) (fn fc : Nat) (ok ovk ovi : Int) (ovt ova ofd : ByteArray) (w : World) (hs : Scp w ts (.slice tp tn tc) b mb K n) (hok : ¬ (1 ≤ ok ∧ ok ≤ 3)) :
  Calls Tryd.prog 85 #[scV (.slice tp tn tc) b mb, .agg #[.int .i64 ok, .int .i64 ovk, .int .i64 ovi, .string ovt, .string ova, .string ofd], .agg #[.string on, .slice fp fn fc]] w fun e w' => e = .returned (.tuple #[.int .i64 0, .int .i64 3]) ∧ Below w.heap.size w w' := by
 have HB : Hid (Below w.heap.size w (((w.alloc (.cells #[.slice tp tn tc, .func (.func 58) #[] #[.pointer (some ⟨b, 0, none⟩)], .map (some mb)] 119)).alloc (.cells #[.int .i64 ok, .int .i64 ovk, .int .i64 ovi, .string ovt, .string ova, .string ofd] 31)).alloc (.cells #[.string on, .slice fp fn fc] 72))) := (((Below.refl _ _).alloc (Nat.le_refl _) _).alloc (by simp) _).alloc (by simp; omega) _
 have HS := hid hs
 clear hs
 have b1 : (ok == 1) = false := by simp; omega
 have b2 : (ok == 2) = false := by simp; omega
 have b3 : (ok == 3) = false := by simp; omega
 clear hok
 go_enter Tryd.func85, Tryd.ntmps85
 go_wp2_with fail
 go_ret2
 exact ⟨rfl, HB.out⟩
theorem pside_1a (ts : List Tp) (tp : Option Addr) (tn tc b mb : Nat) (K : Kns) (n : Nat) (on : ByteArray) (fp : Option Addr) (fn fc : Nat) (ok ovk ovi : Int) (ovt ova ofd : ByteArray) (w : World) (hs : Scp w ts (.slice tp tn tc) b mb K n) (hok : ok = 1) (he : emp ova = false) :
  Calls Tryd.prog 85 #[scV (.slice tp tn tc) b mb, .agg #[.int .i64 ok, .int .i64 ovk, .int .i64 ovi, .string ovt, .string ova, .string ofd], .agg #[.string on, .slice fp fn fc]] w fun e w' => e = .returned (.tuple #[.int .i64 0, .int .i64 4]) ∧ Below w.heap.size w w' := by
 have HB : Hid (Below w.heap.size w (((w.alloc (.cells #[.slice tp tn tc, .func (.func 58) #[] #[.pointer (some ⟨b, 0, none⟩)], .map (some mb)] 119)).alloc (.cells #[.int .i64 ok, .int .i64 ovk, .int .i64 ovi, .string ovt, .string ova, .string ofd] 31)).alloc (.cells #[.string on, .slice fp fn fc] 72))) := (((Below.refl _ _).alloc (Nat.le_refl _) _).alloc (by simp) _).alloc (by simp; omega) _
 have HS := hid hs
 clear hs
 obtain rfl : ok = 1 := hok
 obtain ⟨e1, e2⟩ := zEL he
 clear he
 go_enter Tryd.func85, Tryd.ntmps85
 go_wp2_with fail
 go_ret2
 exact ⟨rfl, HB.out⟩
theorem pside_1b (ts : List Tp) (tp : Option Addr) (tn tc b mb : Nat) (K : Kns) (n : Nat) (on : ByteArray) (fp : Option Addr) (fn fc : Nat) (ok ovk ovi : Int) (ovt ova ofd : ByteArray) (w : World) (hs : Scp w ts (.slice tp tn tc) b mb K n) (hok : ok = 1) (he : emp ova = true) (hf : emp ofd = false) :
  Calls Tryd.prog 85 #[scV (.slice tp tn tc) b mb, .agg #[.int .i64 ok, .int .i64 ovk, .int .i64 ovi, .string ovt, .string ova, .string ofd], .agg #[.string on, .slice fp fn fc]] w fun e w' => e = .returned (.tuple #[.int .i64 0, .int .i64 4]) ∧ Below w.heap.size w w' := by
 have HB : Hid (Below w.heap.size w (((w.alloc (.cells #[.slice tp tn tc, .func (.func 58) #[] #[.pointer (some ⟨b, 0, none⟩)], .map (some mb)] 119)).alloc (.cells #[.int .i64 ok, .int .i64 ovk, .int .i64 ovi, .string ovt, .string ova, .string ofd] 31)).alloc (.cells #[.string on, .slice fp fn fc] 72))) := (((Below.refl _ _).alloc (Nat.le_refl _) _).alloc (by simp) _).alloc (by simp; omega) _
 have HS := hid hs
 clear hs
 obtain rfl : ok = 1 := hok
 have e1 := zC4 he
 obtain ⟨e2, e3⟩ := zEL hf
 clear he hf
 go_enter Tryd.func85, Tryd.ntmps85
 go_wp2_with fail
 go_ret2
 exact ⟨rfl, HB.out⟩
theorem pside_1c (ts : List Tp) (tp : Option Addr) (tn tc b mb : Nat) (K : Kns) (n : Nat) (on : ByteArray) (fp : Option Addr) (fn fc : Nat) (ok ovk ovi : Int) (ovt ova ofd : ByteArray) (w : World) (hs : Scp w ts (.slice tp tn tc) b mb K n) (hok : ok = 1) (he : emp ova = true) (hf : emp ofd = true) :
  Calls Tryd.prog 85 #[scV (.slice tp tn tc) b mb, .agg #[.int .i64 ok, .int .i64 ovk, .int .i64 ovi, .string ovt, .string ova, .string ofd], .agg #[.string on, .slice fp fn fc]] w fun e w' => e = .returned (.tuple #[.int .i64 ovk, .int .i64 (vck ovk ovi ovt)]) ∧ Below w.heap.size w w' := by
 have HB : Hid (Below w.heap.size w (((w.alloc (.cells #[.slice tp tn tc, .func (.func 58) #[] #[.pointer (some ⟨b, 0, none⟩)], .map (some mb)] 119)).alloc (.cells #[.int .i64 ok, .int .i64 ovk, .int .i64 ovi, .string ovt, .string ova, .string ofd] 31)).alloc (.cells #[.string on, .slice fp fn fc] 72))) := (((Below.refl _ _).alloc (Nat.le_refl _) _).alloc (by simp) _).alloc (by simp; omega) _
 have HS := hid hs
 clear hs
 obtain rfl : ok = 1 := hok
 have e1 := zC4 he
 have e2 := zC4 hf
 have HC := hid (zGP ovk ovi ovt)
 generalize vck ovk ovi ovt = r at *
 clear he hf
 go_enter Tryd.func85, Tryd.ntmps85
 go_wp2_with fail
 have c1 : (((w.alloc (.cells #[.slice tp tn tc, .func (.func 58) #[] #[.pointer (some ⟨b, 0, none⟩)], .map (some mb)] 119)).alloc (.cells #[.int .i64 1, .int .i64 ovk, .int .i64 ovi, .string ovt, .string ova, .string ofd] 31)).alloc (.cells #[.string on, .slice fp fn fc] 72)).cell? ⟨w.heap.size + 1, 1, none⟩ = some (.int .i64 ovk) := by go_simp
 have c2 : (((w.alloc (.cells #[.slice tp tn tc, .func (.func 58) #[] #[.pointer (some ⟨b, 0, none⟩)], .map (some mb)] 119)).alloc (.cells #[.int .i64 1, .int .i64 ovk, .int .i64 ovi, .string ovt, .string ova, .string ofd] 31)).alloc (.cells #[.string on, .slice fp fn fc] 72)).cell? ⟨w.heap.size + 1, 2, none⟩ = some (.int .i64 ovi) := by go_simp
 have c3 : (((w.alloc (.cells #[.slice tp tn tc, .func (.func 58) #[] #[.pointer (some ⟨b, 0, none⟩)], .map (some mb)] 119)).alloc (.cells #[.int .i64 1, .int .i64 ovk, .int .i64 ovi, .string ovt, .string ova, .string ofd] 31)).alloc (.cells #[.string on, .slice fp fn fc] 72)).cell? ⟨w.heap.size + 1, 3, none⟩ = some (.string ovt) := by go_simp
 generalize (((w.alloc (.cells #[.slice tp tn tc, .func (.func 58) #[] #[.pointer (some ⟨b, 0, none⟩)], .map (some mb)] 119)).alloc (.cells #[.int .i64 1, .int .i64 ovk, .int .i64 ovi, .string ovt, .string ova, .string ofd] 31)).alloc (.cells #[.string on, .slice fp fn fc] 72)) = W at *
 go_region_held3 (fun w' => w'.cell? ⟨w.heap.size + 1, 1, none⟩ = some (.int .i64 ovk) ∧ w'.cell? ⟨w.heap.size + 1, 2, none⟩ = some (.int .i64 ovi) ∧ w'.cell? ⟨w.heap.size + 1, 3, none⟩ = some (.string ovt))
  (first | exact KU | (go_keep; done))
  ((go_at_call 62; refine (HC.out _).mono ?_; rintro e w7 ⟨rfl, hB7⟩; have HBU : Hid (Below W.heap.size W w7) := zAA (by repeat (first | exact Below.refl _ _ | refine Below.drew ?_)) hB7 (by simp); have KU := (show w7.cell? ⟨w.heap.size + 1, 1, none⟩ = some (.int .i64 ovk) ∧ w7.cell? ⟨w.heap.size + 1, 2, none⟩ = some (.int .i64 ovi) ∧ w7.cell? ⟨w.heap.size + 1, 3, none⟩ = some (.string ovt) from ⟨(HBU.out.cell (p := ⟨w.heap.size + 1, 1, none⟩) (World.block_lt_of_cell? _ _ c1)).trans c1, (HBU.out.cell (p := ⟨w.heap.size + 1, 2, none⟩) (World.block_lt_of_cell? _ _ c2)).trans c2, (HBU.out.cell (p := ⟨w.heap.size + 1, 3, none⟩) (World.block_lt_of_cell? _ _ c3)).trans c3⟩); clear hB7))
 go_wp2_with fail
 go_ret2
 exact ⟨rfl, zAA HB.out HBU.out HB.out.size⟩
theorem pside_2a (ts : List Tp) (tp : Option Addr) (tn tc b mb : Nat) (K : Kns) (n : Nat) (on : ByteArray) (fp : Option Addr) (fn fc : Nat) (ok ovk ovi : Int) (ovt ova ofd : ByteArray) (w : World) (hs : Scp w ts (.slice tp tn tc) b mb K n) (hok : ok = 2) (hv : ¬ ovk = 0) :
  Calls Tryd.prog 85 #[scV (.slice tp tn tc) b mb, .agg #[.int .i64 ok, .int .i64 ovk, .int .i64 ovi, .string ovt, .string ova, .string ofd], .agg #[.string on, .slice fp fn fc]] w fun e w' => e = .returned (.tuple #[.int .i64 0, .int .i64 4]) ∧ Below w.heap.size w w' := by
 have HB : Hid (Below w.heap.size w (((w.alloc (.cells #[.slice tp tn tc, .func (.func 58) #[] #[.pointer (some ⟨b, 0, none⟩)], .map (some mb)] 119)).alloc (.cells #[.int .i64 ok, .int .i64 ovk, .int .i64 ovi, .string ovt, .string ova, .string ofd] 31)).alloc (.cells #[.string on, .slice fp fn fc] 72))) := (((Below.refl _ _).alloc (Nat.le_refl _) _).alloc (by simp) _).alloc (by simp; omega) _
 have HS := hid hs
 clear hs
 obtain rfl : ok = 2 := hok
 have b1 : (ovk == 0) = false := by simpa using hv
 clear hv
 go_enter Tryd.func85, Tryd.ntmps85
 go_wp2_with fail
 go_ret2
 exact ⟨rfl, HB.out⟩
theorem pside_2b (ts : List Tp) (tp : Option Addr) (tn tc b mb : Nat) (K : Kns) (n : Nat) (on : ByteArray) (fp : Option Addr) (fn fc : Nat) (ok ovk ovi : Int) (ovt ova ofd : ByteArray) (w : World) (hs : Scp w ts (.slice tp tn tc) b mb K n) (hok : ok = 2) (hv : ovk = 0) (hi : ¬ ovi = 0) :
  Calls Tryd.prog 85 #[scV (.slice tp tn tc) b mb, .agg #[.int .i64 ok, .int .i64 ovk, .int .i64 ovi, .string ovt, .string ova, .string ofd], .agg #[.string on, .slice fp fn fc]] w fun e w' => e = .returned (.tuple #[.int .i64 0, .int .i64 4]) ∧ Below w.heap.size w w' := by
 have HB : Hid (Below w.heap.size w (((w.alloc (.cells #[.slice tp tn tc, .func (.func 58) #[] #[.pointer (some ⟨b, 0, none⟩)], .map (some mb)] 119)).alloc (.cells #[.int .i64 ok, .int .i64 ovk, .int .i64 ovi, .string ovt, .string ova, .string ofd] 31)).alloc (.cells #[.string on, .slice fp fn fc] 72))) := (((Below.refl _ _).alloc (Nat.le_refl _) _).alloc (by simp) _).alloc (by simp; omega) _
 have HS := hid hs
 clear hs
 obtain rfl : ok = 2 := hok
 obtain rfl : ovk = 0 := hv
 have b1 : (ovi == 0) = false := by simpa using hi
 clear hi
 go_enter Tryd.func85, Tryd.ntmps85
 go_wp2_with fail
 go_ret2
 exact ⟨rfl, HB.out⟩
theorem pside_2c (ts : List Tp) (tp : Option Addr) (tn tc b mb : Nat) (K : Kns) (n : Nat) (on : ByteArray) (fp : Option Addr) (fn fc : Nat) (ok ovk ovi : Int) (ovt ova ofd : ByteArray) (w : World) (hs : Scp w ts (.slice tp tn tc) b mb K n) (hok : ok = 2) (hv : ovk = 0) (hi : ovi = 0) (ht : emp ovt = false) :
  Calls Tryd.prog 85 #[scV (.slice tp tn tc) b mb, .agg #[.int .i64 ok, .int .i64 ovk, .int .i64 ovi, .string ovt, .string ova, .string ofd], .agg #[.string on, .slice fp fn fc]] w fun e w' => e = .returned (.tuple #[.int .i64 0, .int .i64 4]) ∧ Below w.heap.size w w' := by
 have HB : Hid (Below w.heap.size w (((w.alloc (.cells #[.slice tp tn tc, .func (.func 58) #[] #[.pointer (some ⟨b, 0, none⟩)], .map (some mb)] 119)).alloc (.cells #[.int .i64 ok, .int .i64 ovk, .int .i64 ovi, .string ovt, .string ova, .string ofd] 31)).alloc (.cells #[.string on, .slice fp fn fc] 72))) := (((Below.refl _ _).alloc (Nat.le_refl _) _).alloc (by simp) _).alloc (by simp; omega) _
 have HS := hid hs
 clear hs
 obtain rfl : ok = 2 := hok
 obtain rfl : ovk = 0 := hv
 obtain rfl : ovi = 0 := hi
 obtain ⟨b1, b2⟩ := zEL ht
 clear ht
 go_enter Tryd.func85, Tryd.ntmps85
 go_wp2_with fail
 go_ret2
 exact ⟨rfl, HB.out⟩
theorem pside_2d (ts : List Tp) (tp : Option Addr) (tn tc b mb : Nat) (K : Kns) (n : Nat) (on : ByteArray) (fp : Option Addr) (fn fc : Nat) (ok ovk ovi : Int) (ovt ova ofd : ByteArray) (w : World) (hs : Scp w ts (.slice tp tn tc) b mb K n) (hok : ok = 2) (hv : ovk = 0) (hi : ovi = 0) (ht : emp ovt = true) (he : emp ova = false) :
  Calls Tryd.prog 85 #[scV (.slice tp tn tc) b mb, .agg #[.int .i64 ok, .int .i64 ovk, .int .i64 ovi, .string ovt, .string ova, .string ofd], .agg #[.string on, .slice fp fn fc]] w fun e w' => e = .returned (.tuple #[.int .i64 0, .int .i64 4]) ∧ Below w.heap.size w w' := by
 have HB : Hid (Below w.heap.size w (((w.alloc (.cells #[.slice tp tn tc, .func (.func 58) #[] #[.pointer (some ⟨b, 0, none⟩)], .map (some mb)] 119)).alloc (.cells #[.int .i64 ok, .int .i64 ovk, .int .i64 ovi, .string ovt, .string ova, .string ofd] 31)).alloc (.cells #[.string on, .slice fp fn fc] 72))) := (((Below.refl _ _).alloc (Nat.le_refl _) _).alloc (by simp) _).alloc (by simp; omega) _
 have HS := hid hs
 clear hs
 obtain rfl : ok = 2 := hok
 obtain rfl : ovk = 0 := hv
 obtain rfl : ovi = 0 := hi
 have b1 := zC4 ht
 clear ht
 obtain ⟨e1, e2⟩ := zEL he
 clear he
 go_enter Tryd.func85, Tryd.ntmps85
 go_wp2_with fail
 go_ret2
 exact ⟨rfl, HB.out⟩
theorem pside_2e (ts : List Tp) (tp : Option Addr) (tn tc b mb : Nat) (K : Kns) (n : Nat) (on : ByteArray) (fp : Option Addr) (fn fc : Nat) (ok ovk ovi : Int) (ovt ova ofd : ByteArray) (w : World) (hs : Scp w ts (.slice tp tn tc) b mb K n) (hok : ok = 2) (hv : ovk = 0) (hi : ovi = 0) (ht : emp ovt = true) (he : emp ova = true) (fs : List Fd) (hr : Rd w (.row 69 2 (fs.map encF)) (.slice fp fn fc)) (htk : tyk on fs = 0) :
  Calls Tryd.prog 85 #[scV (.slice tp tn tc) b mb, .agg #[.int .i64 ok, .int .i64 ovk, .int .i64 ovi, .string ovt, .string ova, .string ofd], .agg #[.string on, .slice fp fn fc]] w fun e w' => e = .returned (.tuple #[.int .i64 (fck fs ofd).1, .int .i64 (fck fs ofd).2]) ∧ Below w.heap.size w w' := by
 have HB : Hid (Below w.heap.size w (((w.alloc (.cells #[.slice tp tn tc, .func (.func 58) #[] #[.pointer (some ⟨b, 0, none⟩)], .map (some mb)] 119)).alloc (.cells #[.int .i64 ok, .int .i64 ovk, .int .i64 ovi, .string ovt, .string ova, .string ofd] 31)).alloc (.cells #[.string on, .slice fp fn fc] 72))) := (((Below.refl _ _).alloc (Nat.le_refl _) _).alloc (by simp) _).alloc (by simp; omega) _
 have HS := hid hs
 clear hs
 obtain rfl : ok = 2 := hok
 obtain rfl : ovk = 0 := hv
 obtain rfl : ovi = 0 := hi
 have b1 := zC4 ht
 clear ht
 have e1 := zC4 he
 have HC := hid (fun W (hW : Below w.heap.size w W) => zBI on fs (.slice fp fn fc) ofd W (hr.later hW) htk)
 generalize (fck fs ofd).1 = r1 at *
 generalize (fck fs ofd).2 = r2 at *
 clear he hr htk
 go_enter Tryd.func85, Tryd.ntmps85
 go_wp2_with (go_at_call 71; refine (HC.out _ HB.out).mono ?_; rintro e w2 ⟨rfl, hb2⟩; have HB2 := hid (zAA HB.out hb2 HB.out.size); clear hb2)
 go_ret2
 exact ⟨rfl, HB2.out⟩
theorem pside_3a (ts : List Tp) (tp : Option Addr) (tn tc b mb : Nat) (K : Kns) (n : Nat) (on : ByteArray) (fp : Option Addr) (fn fc : Nat) (ok ovk ovi : Int) (ovt ova ofd : ByteArray) (w : World) (hs : Scp w ts (.slice tp tn tc) b mb K n) (hok : ok = 3) (hz : ova.size ≤ maxLen) (p1 p2 : Int) (hp : (lkp K ova.data.toList).getD (0, 0) = (p1, p2)) (h1 : ¬ p1 = 1) :
  Calls Tryd.prog 85 #[scV (.slice tp tn tc) b mb, .agg #[.int .i64 ok, .int .i64 ovk, .int .i64 ovi, .string ovt, .string ova, .string ofd], .agg #[.string on, .slice fp fn fc]] w fun e w' => e = .returned (.tuple #[.int .i64 0, .int .i64 6]) ∧ Below w.heap.size w w' := by
 have HB : Hid (Below w.heap.size w (((w.alloc (.cells #[.slice tp tn tc, .func (.func 58) #[] #[.pointer (some ⟨b, 0, none⟩)], .map (some mb)] 119)).alloc (.cells #[.int .i64 ok, .int .i64 ovk, .int .i64 ovi, .string ovt, .string ova, .string ofd] 31)).alloc (.cells #[.string on, .slice fp fn fc] 72))) := (((Below.refl _ _).alloc (Nat.le_refl _) _).alloc (by simp) _).alloc (by simp; omega) _
 have HS := hid hs
 clear hs
 obtain rfl : ok = 3 := hok
 have HZ := hid hz
 have HP := hid hp
 clear hz hp
 have d1 : (p1 != 1) = true := by simpa using h1
 clear h1
 have HB4 : Hid (Below w.heap.size w ((((w.alloc (.cells #[.slice tp tn tc, .func (.func 58) #[] #[.pointer (some ⟨b, 0, none⟩)], .map (some mb)] 119)).alloc (.cells #[.int .i64 3, .int .i64 ovk, .int .i64 ovi, .string ovt, .string ova, .string ofd] 31)).alloc (.cells #[.string on, .slice fp fn fc] 72)).alloc (.cells #[.int .i64 p1, .int .i64 p2] 144))) := HB.out.alloc HB.out.size _
 go_enter Tryd.func85, Tryd.ntmps85
 go_wp2_with (at_lookup; refine zBE (by rfl) _ _ (by rfl) mb K n (by rfl) (HS.out.km.later HB.out) ova HZ.out (by rfl) (p1, p2) HP.out ?_)
 go_ret2
 exact ⟨rfl, HB4.out⟩
theorem pside_3b (ts : List Tp) (tp : Option Addr) (tn tc b mb : Nat) (K : Kns) (n : Nat) (on : ByteArray) (fp : Option Addr) (fn fc : Nat) (ok ovk ovi : Int) (ovt ova ofd : ByteArray) (w : World) (hs : Scp w ts (.slice tp tn tc) b mb K n) (hok : ok = 3) (hz : ova.size ≤ maxLen) (p1 p2 : Int) (hp : (lkp K ova.data.toList).getD (0, 0) = (p1, p2)) (h1 : p1 = 1) (hv : ¬ ovk = 0) :
  Calls Tryd.prog 85 #[scV (.slice tp tn tc) b mb, .agg #[.int .i64 ok, .int .i64 ovk, .int .i64 ovi, .string ovt, .string ova, .string ofd], .agg #[.string on, .slice fp fn fc]] w fun e w' => e = .returned (.tuple #[.int .i64 0, .int .i64 4]) ∧ Below w.heap.size w w' := by
 have HB : Hid (Below w.heap.size w (((w.alloc (.cells #[.slice tp tn tc, .func (.func 58) #[] #[.pointer (some ⟨b, 0, none⟩)], .map (some mb)] 119)).alloc (.cells #[.int .i64 ok, .int .i64 ovk, .int .i64 ovi, .string ovt, .string ova, .string ofd] 31)).alloc (.cells #[.string on, .slice fp fn fc] 72))) := (((Below.refl _ _).alloc (Nat.le_refl _) _).alloc (by simp) _).alloc (by simp; omega) _
 have HS := hid hs
 clear hs
 obtain rfl : ok = 3 := hok
 have HZ := hid hz
 have HP := hid hp
 clear hz hp
 obtain rfl : p1 = 1 := h1
 have b1 : (ovk == 0) = false := by simpa using hv
 clear hv
 have HB4 : Hid (Below w.heap.size w ((((w.alloc (.cells #[.slice tp tn tc, .func (.func 58) #[] #[.pointer (some ⟨b, 0, none⟩)], .map (some mb)] 119)).alloc (.cells #[.int .i64 3, .int .i64 ovk, .int .i64 ovi, .string ovt, .string ova, .string ofd] 31)).alloc (.cells #[.string on, .slice fp fn fc] 72)).alloc (.cells #[.int .i64 1, .int .i64 p2] 144))) := HB.out.alloc HB.out.size _
 go_enter Tryd.func85, Tryd.ntmps85
 go_wp2_with (at_lookup; refine zBE (by rfl) _ _ (by rfl) mb K n (by rfl) (HS.out.km.later HB.out) ova HZ.out (by rfl) (1, p2) HP.out ?_)
 go_ret2
 exact ⟨rfl, HB4.out⟩
theorem pside_3c (ts : List Tp) (tp : Option Addr) (tn tc b mb : Nat) (K : Kns) (n : Nat) (on : ByteArray) (fp : Option Addr) (fn fc : Nat) (ok ovk ovi : Int) (ovt ova ofd : ByteArray) (w : World) (hs : Scp w ts (.slice tp tn tc) b mb K n) (hok : ok = 3) (hz : ova.size ≤ maxLen) (p1 p2 : Int) (hp : (lkp K ova.data.toList).getD (0, 0) = (p1, p2)) (h1 : p1 = 1) (hv : ovk = 0) (hi : ¬ ovi = 0) :
  Calls Tryd.prog 85 #[scV (.slice tp tn tc) b mb, .agg #[.int .i64 ok, .int .i64 ovk, .int .i64 ovi, .string ovt, .string ova, .string ofd], .agg #[.string on, .slice fp fn fc]] w fun e w' => e = .returned (.tuple #[.int .i64 0, .int .i64 4]) ∧ Below w.heap.size w w' := by
 have HB : Hid (Below w.heap.size w (((w.alloc (.cells #[.slice tp tn tc, .func (.func 58) #[] #[.pointer (some ⟨b, 0, none⟩)], .map (some mb)] 119)).alloc (.cells #[.int .i64 ok, .int .i64 ovk, .int .i64 ovi, .string ovt, .string ova, .string ofd] 31)).alloc (.cells #[.string on, .slice fp fn fc] 72))) := (((Below.refl _ _).alloc (Nat.le_refl _) _).alloc (by simp) _).alloc (by simp; omega) _
 have HS := hid hs
 clear hs
 obtain rfl : ok = 3 := hok
 have HZ := hid hz
 have HP := hid hp
 clear hz hp
 obtain rfl : p1 = 1 := h1
 obtain rfl : ovk = 0 := hv
 have b1 : (ovi == 0) = false := by simpa using hi
 clear hi
 have HB4 : Hid (Below w.heap.size w ((((w.alloc (.cells #[.slice tp tn tc, .func (.func 58) #[] #[.pointer (some ⟨b, 0, none⟩)], .map (some mb)] 119)).alloc (.cells #[.int .i64 3, .int .i64 0, .int .i64 ovi, .string ovt, .string ova, .string ofd] 31)).alloc (.cells #[.string on, .slice fp fn fc] 72)).alloc (.cells #[.int .i64 1, .int .i64 p2] 144))) := HB.out.alloc HB.out.size _
 go_enter Tryd.func85, Tryd.ntmps85
 go_wp2_with (at_lookup; refine zBE (by rfl) _ _ (by rfl) mb K n (by rfl) (HS.out.km.later HB.out) ova HZ.out (by rfl) (1, p2) HP.out ?_)
 go_ret2
 exact ⟨rfl, HB4.out⟩
theorem pside_3d (ts : List Tp) (tp : Option Addr) (tn tc b mb : Nat) (K : Kns) (n : Nat) (on : ByteArray) (fp : Option Addr) (fn fc : Nat) (ok ovk ovi : Int) (ovt ova ofd : ByteArray) (w : World) (hs : Scp w ts (.slice tp tn tc) b mb K n) (hok : ok = 3) (hz : ova.size ≤ maxLen) (p1 p2 : Int) (hp : (lkp K ova.data.toList).getD (0, 0) = (p1, p2)) (h1 : p1 = 1) (hv : ovk = 0) (hi : ovi = 0) (ht : emp ovt = false) :
  Calls Tryd.prog 85 #[scV (.slice tp tn tc) b mb, .agg #[.int .i64 ok, .int .i64 ovk, .int .i64 ovi, .string ovt, .string ova, .string ofd], .agg #[.string on, .slice fp fn fc]] w fun e w' => e = .returned (.tuple #[.int .i64 0, .int .i64 4]) ∧ Below w.heap.size w w' := by
 have HB : Hid (Below w.heap.size w (((w.alloc (.cells #[.slice tp tn tc, .func (.func 58) #[] #[.pointer (some ⟨b, 0, none⟩)], .map (some mb)] 119)).alloc (.cells #[.int .i64 ok, .int .i64 ovk, .int .i64 ovi, .string ovt, .string ova, .string ofd] 31)).alloc (.cells #[.string on, .slice fp fn fc] 72))) := (((Below.refl _ _).alloc (Nat.le_refl _) _).alloc (by simp) _).alloc (by simp; omega) _
 have HS := hid hs
 clear hs
 obtain rfl : ok = 3 := hok
 have HZ := hid hz
 have HP := hid hp
 clear hz hp
 obtain rfl : p1 = 1 := h1
 obtain rfl : ovk = 0 := hv
 obtain rfl : ovi = 0 := hi
 obtain ⟨b1, b2⟩ := zEL ht
 clear ht
 have HB4 : Hid (Below w.heap.size w ((((w.alloc (.cells #[.slice tp tn tc, .func (.func 58) #[] #[.pointer (some ⟨b, 0, none⟩)], .map (some mb)] 119)).alloc (.cells #[.int .i64 3, .int .i64 0, .int .i64 0, .string ovt, .string ova, .string ofd] 31)).alloc (.cells #[.string on, .slice fp fn fc] 72)).alloc (.cells #[.int .i64 1, .int .i64 p2] 144))) := HB.out.alloc HB.out.size _
 go_enter Tryd.func85, Tryd.ntmps85
 go_wp2_with (at_lookup; refine zBE (by rfl) _ _ (by rfl) mb K n (by rfl) (HS.out.km.later HB.out) ova HZ.out (by rfl) (1, p2) HP.out ?_)
 go_ret2
 exact ⟨rfl, HB4.out⟩
theorem pside_3e (ts : List Tp) (tp : Option Addr) (tn tc b mb : Nat) (K : Kns) (n : Nat) (on : ByteArray) (fp : Option Addr) (fn fc : Nat) (ok ovk ovi : Int) (ovt ova ofd : ByteArray) (w : World) (hs : Scp w ts (.slice tp tn tc) b mb K n) (hok : ok = 3) (hz : ova.size ≤ maxLen) (p1 p2 : Int) (hp : (lkp K ova.data.toList).getD (0, 0) = (p1, p2)) (h1 : p1 = 1) (hv : ovk = 0) (hi : ovi = 0) (ht : emp ovt = true) (i : Nat) (hi' : i < ts.length) (h2 : p2 = (i : Int)) (htk : tyk ts[i].n ts[i].f = 0) :
  Calls Tryd.prog 85 #[scV (.slice tp tn tc) b mb, .agg #[.int .i64 ok, .int .i64 ovk, .int .i64 ovi, .string ovt, .string ova, .string ofd], .agg #[.string on, .slice fp fn fc]] w fun e w' => e = .returned (.tuple #[.int .i64 (fck ts[i].f ofd).1, .int .i64 (fck ts[i].f ofd).2]) ∧ Below w.heap.size w w' := by
 have HB : Hid (Below w.heap.size w (((w.alloc (.cells #[.slice tp tn tc, .func (.func 58) #[] #[.pointer (some ⟨b, 0, none⟩)], .map (some mb)] 119)).alloc (.cells #[.int .i64 ok, .int .i64 ovk, .int .i64 ovi, .string ovt, .string ova, .string ofd] 31)).alloc (.cells #[.string on, .slice fp fn fc] 72))) := (((Below.refl _ _).alloc (Nat.le_refl _) _).alloc (by simp) _).alloc (by simp; omega) _
 have HS := hid hs
 clear hs
 obtain rfl : ok = 3 := hok
 have HZ := hid hz
 have HP := hid hp
 clear hz hp
 obtain rfl : p1 = 1 := h1
 obtain rfl : p2 = (i : Int) := h2
 obtain rfl : ovk = 0 := hv
 obtain rfl : ovi = 0 := hi
 have b1 := zC4 ht
 clear ht
 obtain ⟨p, cap, e0, hmx, hat⟩ := zAG lenY HS.out.rt
 simp only [Value.slice.injEq] at e0
 obtain ⟨rfl, rfl, rfl⟩ := e0
 obtain ⟨gt, oft, rfl, hrd⟩ := hat (by omega)
 obtain ⟨us, r1, o1⟩ := hrd w (Below.refl _ _) i hi'
 obtain ⟨fv, z1, o2⟩ := rdY o1
 obtain ⟨fp2, fn2, fc2, rfl⟩ := zAB o2
 rw [z1] at r1
 have y0 : w.cell? ⟨gt, oft + i * 2, none⟩ = some (.string ts[i].n) := by simpa using r1 0 _ rfl
 have y1 : w.cell? ⟨gt, oft + i * 2 + 1, none⟩ = some (.slice fp2 fn2 fc2) := r1 1 _ rfl
 have HC := hid (fun W (hW : Below w.heap.size w W) => zBI ts[i].n ts[i].f (.slice fp2 fn2 fc2) ofd W (o2.later hW) htk)
 have HY := hid (And.intro y0 y1)
 generalize (fck ts[i].f ofd).1 = q1 at *
 generalize (fck ts[i].f ofd).2 = q2 at *
 obtain ⟨tnm, htnm⟩ : ∃ x, ts[i].n = x := ⟨_, rfl⟩
 rw [htnm] at HC HY
 obtain ⟨tn, htn⟩ : ∃ x, ts.length = x := ⟨_, rfl⟩
 rw [htn] at HB HS ⊢
 have i1 : (0 : Int) ≤ (i : Int) := by omega
 have i2 : (i : Int) < (tn : Int) := by omega
 clear hrd r1 o1 o2 z1 y0 y1 htnm htn hi' htk hmx hat
 have HB4 : Hid (Below w.heap.size w ((((w.alloc (.cells #[.slice (some ⟨gt, oft, none⟩) tn tc, .func (.func 58) #[] #[.pointer (some ⟨b, 0, none⟩)], .map (some mb)] 119)).alloc (.cells #[.int .i64 3, .int .i64 0, .int .i64 0, .string ovt, .string ova, .string ofd] 31)).alloc (.cells #[.string on, .slice fp fn fc] 72)).alloc (.cells #[.int .i64 1, .int .i64 (i : Int)] 144))) := HB.out.alloc HB.out.size _
 go_enter Tryd.func85, Tryd.ntmps85
 go_wp2_with (at_lookup; refine zBE (by rfl) _ _ (by rfl) mb K n (by rfl) (HS.out.km.later HB.out) ova HZ.out (by rfl) (1, (i : Int)) HP.out ?_)
 have c0 : ((((w.alloc (.cells #[.slice (some ⟨gt, oft, none⟩) tn tc, .func (.func 58) #[] #[.pointer (some ⟨b, 0, none⟩)], .map (some mb)] 119)).alloc (.cells #[.int .i64 3, .int .i64 0, .int .i64 0, .string ovt, .string ova, .string ofd] 31)).alloc (.cells #[.string on, .slice fp fn fc] 72)).alloc (.cells #[.int .i64 1, .int .i64 (i : Int)] 144)).cell? ⟨w.heap.size, 0, none⟩ = some (.slice (some ⟨gt, oft, none⟩) tn tc) := by go_simp
 have c1 : ((((w.alloc (.cells #[.slice (some ⟨gt, oft, none⟩) tn tc, .func (.func 58) #[] #[.pointer (some ⟨b, 0, none⟩)], .map (some mb)] 119)).alloc (.cells #[.int .i64 3, .int .i64 0, .int .i64 0, .string ovt, .string ova, .string ofd] 31)).alloc (.cells #[.string on, .slice fp fn fc] 72)).alloc (.cells #[.int .i64 1, .int .i64 (i : Int)] 144)).cell? ⟨w.heap.size + 3, 1, none⟩ = some (.int .i64 (i : Int)) := by go_simp
 have c2 : ((((w.alloc (.cells #[.slice (some ⟨gt, oft, none⟩) tn tc, .func (.func 58) #[] #[.pointer (some ⟨b, 0, none⟩)], .map (some mb)] 119)).alloc (.cells #[.int .i64 3, .int .i64 0, .int .i64 0, .string ovt, .string ova, .string ofd] 31)).alloc (.cells #[.string on, .slice fp fn fc] 72)).alloc (.cells #[.int .i64 1, .int .i64 (i : Int)] 144)).cell? ⟨w.heap.size + 1, 5, none⟩ = some (.string ofd) := by go_simp
 have c3 : ((((w.alloc (.cells #[.slice (some ⟨gt, oft, none⟩) tn tc, .func (.func 58) #[] #[.pointer (some ⟨b, 0, none⟩)], .map (some mb)] 119)).alloc (.cells #[.int .i64 3, .int .i64 0, .int .i64 0, .string ovt, .string ova, .string ofd] 31)).alloc (.cells #[.string on, .slice fp fn fc] 72)).alloc (.cells #[.int .i64 1, .int .i64 (i : Int)] 144)).cell? ⟨gt, oft + i * 2, none⟩ = some (.string tnm) := by exact (HB4.out.cell (p := ⟨gt, _, none⟩) (World.block_lt_of_cell? _ _ HY.out.1)).trans HY.out.1
 have c4 : ((((w.alloc (.cells #[.slice (some ⟨gt, oft, none⟩) tn tc, .func (.func 58) #[] #[.pointer (some ⟨b, 0, none⟩)], .map (some mb)] 119)).alloc (.cells #[.int .i64 3, .int .i64 0, .int .i64 0, .string ovt, .string ova, .string ofd] 31)).alloc (.cells #[.string on, .slice fp fn fc] 72)).alloc (.cells #[.int .i64 1, .int .i64 (i : Int)] 144)).cell? ⟨gt, oft + i * 2 + 1, none⟩ = some (.slice fp2 fn2 fc2) := by exact (HB4.out.cell (p := ⟨gt, _, none⟩) (World.block_lt_of_cell? _ _ HY.out.2)).trans HY.out.2
 generalize ((((w.alloc (.cells #[.slice (some ⟨gt, oft, none⟩) tn tc, .func (.func 58) #[] #[.pointer (some ⟨b, 0, none⟩)], .map (some mb)] 119)).alloc (.cells #[.int .i64 3, .int .i64 0, .int .i64 0, .string ovt, .string ova, .string ofd] 31)).alloc (.cells #[.string on, .slice fp fn fc] 72)).alloc (.cells #[.int .i64 1, .int .i64 (i : Int)] 144)) = W at *
 go_region_held3 (fun w' => w'.cell? ⟨w.heap.size, 0, none⟩ = some (.slice (some ⟨gt, oft, none⟩) tn tc) ∧ w'.cell? ⟨w.heap.size + 3, 1, none⟩ = some (.int .i64 (i : Int)) ∧ w'.cell? ⟨w.heap.size + 1, 5, none⟩ = some (.string ofd) ∧ w'.cell? ⟨gt, oft + i * 2, none⟩ = some (.string tnm) ∧ w'.cell? ⟨gt, oft + i * 2 + 1, none⟩ = some (.slice fp2 fn2 fc2))
  (first | exact KU | (go_keep; done))
  ((go_at_call 71; refine (HC.out _ (by repeat (first | exact HB4.out | refine Below.drew ?_))).mono ?_; rintro e w7 ⟨rfl, hB7⟩; have HBU : Hid (Below W.heap.size W w7) := zAA (by repeat (first | exact Below.refl _ _ | refine Below.drew ?_)) hB7 (by simp); have KU := (show w7.cell? ⟨w.heap.size, 0, none⟩ = some (.slice (some ⟨gt, oft, none⟩) tn tc) ∧ w7.cell? ⟨w.heap.size + 3, 1, none⟩ = some (.int .i64 (i : Int)) ∧ w7.cell? ⟨w.heap.size + 1, 5, none⟩ = some (.string ofd) ∧ w7.cell? ⟨gt, oft + i * 2, none⟩ = some (.string tnm) ∧ w7.cell? ⟨gt, oft + i * 2 + 1, none⟩ = some (.slice fp2 fn2 fc2) from ⟨(HBU.out.cell (p := ⟨w.heap.size, 0, none⟩) (World.block_lt_of_cell? _ _ c0)).trans c0, (HBU.out.cell (p := ⟨w.heap.size + 3, 1, none⟩) (World.block_lt_of_cell? _ _ c1)).trans c1, (HBU.out.cell (p := ⟨w.heap.size + 1, 5, none⟩) (World.block_lt_of_cell? _ _ c2)).trans c2, (HBU.out.cell (p := ⟨gt, oft + i * 2, none⟩) (World.block_lt_of_cell? _ _ c3)).trans c3, (HBU.out.cell (p := ⟨gt, oft + i * 2 + 1, none⟩) (World.block_lt_of_cell? _ _ c4)).trans c4⟩); clear hB7))
 go_wp2_with fail
 go_ret2
 exact ⟨rfl, zAA HB4.out HBU.out HB4.out.size⟩
theorem zEI (ts : List Tp) (ws : List Pt) (own : Tp) (o : Opd) (tv fv : Value) (b mb : Nat) (K : Kns) (n : Nat) (w : World) (hs : Scp w ts tv b mb K n) (hF : Rd w (.row 69 2 (own.f.map encF)) fv) (hkn : zBR ts ws) (hk : Knw ts ws K) (hty : ∀ i (hi : i < ts.length), tyk ts[i].n ts[i].f = 0) (hown : o.k = 2 → tyk own.n own.f = 0) (hz : o.va.size ≤ maxLen) :
   Calls Tryd.prog 85 #[scV tv b mb, opV o, .agg #[.string own.n, fv]] w fun e w' => e = .returned (.tuple #[.int .i64 (sdk ts ws own o).1, .int .i64 (sdk ts ws own o).2]) ∧ Below w.heap.size w w' := by
 obtain ⟨tp, tn, tc, rfl⟩ := zAB hs.rt
 obtain ⟨fp, fn, fc, rfl⟩ := zAB hF
 obtain ⟨on, ofs⟩ := own
 obtain ⟨ok, ovk, ovi, ovt, ova, ofd⟩ := o
 unfold sdk nzv
 simp only at hF hown hz ⊢
 by_cases h1 : 1 ≤ ok ∧ ok ≤ 3
 . rw [if_neg (fun c => c h1)]
   by_cases k1 : ok = 1
   . rw [if_pos k1]
     cases he : emp ova with
     | false =>
       rw [if_pos (.inl rfl)]
       exact pside_1a ts tp tn tc b mb K n on fp fn fc ok ovk ovi ovt ova ofd w hs k1 he
     | true =>
       cases hf : emp ofd with
       | false =>
         rw [if_pos (.inr rfl)]
         exact pside_1b ts tp tn tc b mb K n on fp fn fc ok ovk ovi ovt ova ofd w hs k1 he hf
       | true =>
         rw [if_neg (by simp)]
         exact pside_1c ts tp tn tc b mb K n on fp fn fc ok ovk ovi ovt ova ofd w hs k1 he hf
   . rw [if_neg k1]
     by_cases k2 : ok = 2
     . rw [if_pos k2]
       by_cases v1 : ovk = 0
       . by_cases v2 : ovi = 0
         . cases v3 : emp ovt with
           | false =>
             rw [if_pos (.inr (by simp))]
             exact pside_2c ts tp tn tc b mb K n on fp fn fc ok ovk ovi ovt ova ofd w hs k2 v1 v2 v3
           | true =>
             cases he : emp ova with
             | false =>
              rw [if_pos (.inl rfl)]
              exact pside_2d ts tp tn tc b mb K n on fp fn fc ok ovk ovi ovt ova ofd w hs k2 v1 v2 v3 he
             | true =>
              rw [if_neg (by simp [v1, v2])]
              exact pside_2e ts tp tn tc b mb K n on fp fn fc ok ovk ovi ovt ova ofd w hs k2 v1 v2 v3 he ofs hF (hown k2)
         . rw [if_pos (.inr (by simp [v2]))]
           exact pside_2b ts tp tn tc b mb K n on fp fn fc ok ovk ovi ovt ova ofd w hs k2 v1 v2
       . rw [if_pos (.inr (by simp [v1]))]
         exact pside_2a ts tp tn tc b mb K n on fp fn fc ok ovk ovi ovt ova ofd w hs k2 v1
     . rw [if_neg k2]
       have k3 : ok = 3 := by omega
       obtain ⟨p1, p2, hp⟩ : ∃ p1 p2, (lkp K ova.data.toList).getD (0, 0) = (p1, p2) := ⟨_, _, rfl⟩
       rcases zBC (q := fun p : Pt => seq p.va ova) ws 0 with c | ⟨j, hj, c, _⟩
       . have c' : ptq ws ova = -1 := c
         rw [if_pos (by rw [c']; decide)]
         have hne := hk.1 ova (by rw [c']; decide)
         rw [hp] at hne
         exact pside_3a ts tp tn tc b mb K n on fp fn fc ok ovk ovi ovt ova ofd w hs k3 hz p1 p2 hp hne
       . have c' : ptq ws ova = (j : Int) := by show ixq _ _ _ = _; rw [c]; simp
         have hl := hk.2 ova j hj c'
         rw [hl] at hp
         simp only [Option.getD_some, Prod.mk.injEq] at hp
         obtain ⟨rfl, hp2⟩ := hp
         have hp' : (lkp K ova.data.toList).getD (0, 0) = (1, p2) := by rw [hl, ← hp2]; rfl
         rw [if_neg (by rw [c']; omega)]
         by_cases v1 : ovk = 0
         . by_cases v2 : ovi = 0
           . cases v3 : emp ovt with
             | false =>
              rw [if_pos (by simp)]
              exact pside_3d ts tp tn tc b mb K n on fp fn fc ok ovk ovi ovt ova ofd w hs k3 hz 1 p2 hp' rfl v1 v2 v3
             | true =>
              rw [if_neg (by simp [v1, v2])]
              obtain ⟨i, hi, hti⟩ := hkn j hj
              have ht : tyOf ts ws ova = ts[i] := by
               unfold tyOf
               rw [c']
               simp [hj, hti, hi]
              rw [ht]
              exact pside_3e ts tp tn tc b mb K n on fp fn fc ok ovk ovi ovt ova ofd w hs k3 hz 1 p2 hp' rfl v1 v2 v3 i hi (by rw [← hp2, hti]) (hty i hi)
           . rw [if_pos (by simp [v2])]
             exact pside_3c ts tp tn tc b mb K n on fp fn fc ok ovk ovi ovt ova ofd w hs k3 hz 1 p2 hp' rfl v1 v2
         . rw [if_pos (by simp [v1])]
           exact pside_3b ts tp tn tc b mb K n on fp fn fc ok ovk ovi ovt ova ofd w hs k3 hz 1 p2 hp' rfl v1
 . rw [if_pos h1]
   exact pside_k ts tp tn tc b mb K n on fp fn fc ok ovk ovi ovt ova ofd w hs h1
end Go.Proofs.YtnlmknbhppdliaaDoor.Chk
