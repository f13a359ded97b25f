/-
  Maps by handles: numbers, and marks.
-/
import Derived.Test.YtchiajedajabnaaCt
import Derived.DeepKeys4
namespace Go.Proofs.Ytchiajedajabnaa
open Go.ChangeShapes Go.WideShapes Go.ChangeAt Go.RowKit Go.Maps
set_option linter.unusedVariables false
set_option linter.unusedSimpArgs false
theorem laidOut : laidOutB Try.prog = true := by kernel_rfl
theorem row35 : (35 : TypeId) < Try.prog.types.size := of_decide_eq_true (by kernel_rfl)
theorem wide35 : (match Try.prog.underlying 35 with | some (.array _ _) | some (.struct _) => true | _ => false) = true := by rw [Try.underlying35]
theorem law35 : Keyed Try.prog 35 := Keyed.of_law (deep_law_laid laidOut (m := 2) (by omega) row35 (by kernel_rfl) wide35)
theorem cells35 : Try.prog.cellsOf 35 = 2 := by kernel_rfl
theorem kt35 : Try.prog.keyType 35 = true := by kernel_rfl
theorem sz35 : ∃ m, Try.prog.types.size = m + 1 := ⟨Try.prog.types.size - 1, (Nat.succ_pred_eq_of_pos (Nat.lt_of_le_of_lt (Nat.zero_le 35) row35)).symm⟩
def hV (p t : Int) : Value := .agg #[.int .i64 p, .int .i64 t]
def kk (p t : Int) : Lit := .string (keyBytes [.int .i64 p, .int .i64 t])
theorem key35 {p t : Int} (hp : wfI p) (ht : wfI t) : keyOf Try.prog 35 (hV p t) = some (kk p t) := by
  have w1 : (Lit.int .i64 p).wf = true := WalkArith.wf_i64 hp
  have w2 : (Lit.int .i64 t).wf = true := WalkArith.wf_i64 ht
  obtain ⟨m, hm⟩ := sz35
  unfold keyOf hV
  simp only [Try.underlying35]
  rw [if_pos (by simp [kt35, Value.formed, Try.underlying35, cells35]), hm]
  unfold Program.keyLits
  simp only [Try.underlying35, Value.cells]
  rw [if_pos (by rw [cells35]; exact ⟨rfl, by simp⟩)]
  simp [List.mapM_cons, c3, Program.keyLits, Try.underlying3, w1, w2, kk]
theorem kk_ne {p t p' t' : Int} (hp : wfI p) (ht : wfI t) (hp' : wfI p') (ht' : wfI t') (h : ¬ (p = p' ∧ t = t')) : kk p t ≠ kk p' t' := fun e => by
  have h1 := key35 hp ht
  have h2 := key35 hp' ht'
  rw [← e] at h2
  have := law35.inj h1 h2
  simp [hV] at this
  exact h this
def elD : Value → DataW Unit
  | .int .i64 a => .lit (.int .i64 a)
  | .bool b => .lit (.bool b)
  | _ => .nil
def elE : Value → Option (DataW Unit × List MemPlace)
  | .int .i64 a => some (.lit (.int .i64 a), [])
  | .bool b => some (.lit (.bool b), [])
  | _ => none
def isEl (x : Value) : Prop := elE x = some (elD x, [])
theorem el_int (a : Int) : isEl (.int .i64 a) := rfl
theorem el_bool (b : Bool) : isEl (.bool b) := rfl
theorem el_inv {v x : Value} {ps : List MemPlace} (hx : isEl x) (h : elE v = some (elD x, ps)) : v = x := by
  unfold isEl elE at hx
  split at hx
  · unfold elE at h
    split at h
    · simp [elD] at h; rw [h.1]
    · simp [elD] at h
    · cases h
  · unfold elE at h
    split at h
    · simp [elD] at h
    · simp [elD] at h; rw [h.1]
    · cases h
  · cases hx
abbrev Hm := Int → Int → Option Value
def Hm.put (F : Hm) (p t : Int) (x : Value) : Hm := fun a b => if a = p ∧ b = t then some x else F a b
def Hm.del (F : Hm) (p t : Int) : Hm := fun a b => if a = p ∧ b = t then none else F a b
def Mh (w : World) (mb : Nat) (F : Hm) (n : Nat) : Prop :=
  ∃ D : DataW Unit, w.ownsMap Try.prog 35 elE mb n D ∧ Maps.size D = n ∧ ∀ p t, wfI p → wfI t → Maps.has D (kk p t) = (F p t).isSome ∧ ∀ x, F p t = some x → isEl x ∧ ∀ z, D.atKey (kk p t) z = elD x
theorem owns_tight {w : World} {b n : Nat} {D : DataW Unit} (h : w.ownsMap Try.prog 35 elE b n D) : w.ownsMap Try.prog 35 elE b (Maps.size D) D := by
  obtain ⟨es, clock, hb, F, hs, rfl⟩ := h
  exact ⟨es, clock, hb, F, by simp [Maps.size, length_read], rfl⟩
theorem Mh.block {w w' : World} {mb : Nat} {F : Hm} {n : Nat} (h : Mh w mb F n) (e : w'.heap[mb]? = w.heap[mb]?) : Mh w' mb F n := by
  obtain ⟨D, ⟨es, clock, hb, r⟩, r2⟩ := h
  exact ⟨D, ⟨es, clock, by rw [e]; exact hb, r⟩, r2⟩
theorem Mh.lt {w : World} {mb : Nat} {F : Hm} {n : Nat} (h : Mh w mb F n) : mb < w.heap.size := let ⟨_, h, _⟩ := h; h.lt
theorem Mh.congr {w : World} {mb : Nat} {F G : Hm} {n : Nat} (h : Mh w mb F n) (e : ∀ p t, wfI p → wfI t → F p t = G p t) : Mh w mb G n := by
  obtain ⟨D, h, hs, h1⟩ := h
  refine ⟨D, h, hs, fun p t hp ht => ?_⟩
  rw [← e p t hp ht]
  exact h1 p t hp ht
theorem mh_made (w : World) : Mh (w.alloc (.map #[] 0)) w.heap.size (fun _ _ => none) 0 :=
  ⟨.map [], World.ownsMap_made _ _ _ _, rfl, fun p t _ _ => ⟨rfl, fun x h => by cases h⟩⟩
theorem Mh.len {w : World} {mb : Nat} {F : Hm} {n : Nat} (h : Mh w mb F n) (ty : TypeId) : (Builtin.len_ #[31] ty #[.map (some mb)]).run Try.prog w = .ok (.int .i64 n) w := by
  obtain ⟨D, h, hs, _⟩ := h
  rw [← hs]; exact h.len Try.underlying31 ty
theorem Mh.at' {w : World} {mb : Nat} {F : Hm} {n : Nat} (h : Mh w mb F n) {p t : Int} (hp : wfI p) (ht : wfI t) {z v : Value} (hz : isEl z) {ps : List MemPlace} {D : DataW Unit} (h1 : Maps.has D (kk p t) = (F p t).isSome ∧ ∀ x, F p t = some x → isEl x ∧ ∀ z, D.atKey (kk p t) z = elD x) (hv : elE v = some (D.atKey (kk p t) (elD z), ps)) : v = (F p t).getD z := by
  cases hm : F p t with
  | none =>
    have := h1.1
    rw [hm] at this
    rw [atKey_of_not_has this] at hv
    exact el_inv hz hv
  | some x =>
    obtain ⟨e1, e2⟩ := h1.2 x hm
    rw [e2] at hv
    exact el_inv e1 hv
theorem zero3 (w : World) : (zeroValue 3).run Try.prog w = .ok (.int .i64 0) w := by kernel_rfl
theorem zero4 (w : World) : (zeroValue 4).run Try.prog w = .ok (.bool false) w := by kernel_rfl
theorem Mh.look {w : World} {mb : Nat} {F : Hm} {n : Nat} (h : Mh w mb F n) {p t : Int} (hp : wfI p) (ht : wfI t) :
    (Instr.lookup 31 (.map (some mb)) (.agg #[.int .i64 p, .int .i64 t]) true).run Try.prog w = .ok (.tuple #[(F p t).getD (.int .i64 0), .bool (F p t).isSome]) w := by
  have h' := h
  obtain ⟨D, h, hs, h1⟩ := h
  obtain ⟨v, ps, hrun, hv⟩ := h.look_ok law35 Try.underlying31 (zero3 w) (el_int 0) (key35 hp ht)
  have := h'.at' hp ht (el_int 0) (h1 p t hp ht) hv
  rw [show (Value.agg #[.int .i64 p, .int .i64 t]) = hV p t from rfl, hrun, (h1 p t hp ht).1, this]
theorem Mh.mark {w : World} {mb : Nat} {F : Hm} {n : Nat} (h : Mh w mb F n) {p t : Int} (hp : wfI p) (ht : wfI t) :
    (Instr.lookup 32 (.map (some mb)) (.agg #[.int .i64 p, .int .i64 t]) false).run Try.prog w = .ok ((F p t).getD (.bool false)) w := by
  have h' := h
  obtain ⟨D, h, hs, h1⟩ := h
  obtain ⟨v, ps, hrun, hv⟩ := h.lookup law35 Try.underlying32 (zero4 w) (el_bool false) (key35 hp ht)
  have := h'.at' hp ht (el_bool false) (h1 p t hp ht) hv
  rw [show (Value.agg #[.int .i64 p, .int .i64 t]) = hV p t from rfl, hrun, this]
theorem Mh.store {w : World} {mb : Nat} {F : Hm} {n : Nat} (h : Mh w mb F n) {mt et : TypeId} (hmt : Try.prog.underlying mt = some (.map 35 et)) {p t : Int} (hp : wfI p) (ht : wfI t) (hn : n ≤ 2000) {x : Value} (hx : isEl x) :
    ∃ w', (Instr.mapUpdate mt (.map (some mb)) (.agg #[.int .i64 p, .int .i64 t]) x).run Try.prog w = .ok () w' ∧ Mh w' mb (F.put p t x) (if (F p t).isSome then n else n + 1) ∧ w.mapTurned w' mb := by
  obtain ⟨D, h, hs, h1⟩ := h
  obtain ⟨w', hrun, ho, hT⟩ := h.store law35 hmt (by unfold maxLen; omega) (key35 hp ht) hx
  have hsz : Maps.size (D.put (kk p t) (elD x)) = if (F p t).isSome then n else n + 1 := by
    rw [size_put (h.tidy law35), (h1 p t hp ht).1, hs]
  refine ⟨w', hrun, ⟨D.put (kk p t) (elD x), hsz ▸ owns_tight ho, hsz, fun a b ha hb => ?_⟩, hT⟩
  by_cases e : a = p ∧ b = t
  · obtain ⟨rfl, rfl⟩ := e
    refine ⟨by rw [has_put_same h.isMap (by trivial)]; simp [Hm.put], fun y hy => ?_⟩
    simp [Hm.put] at hy
    subst hy
    exact ⟨hx, fun z => by rw [atKey_put_same h.isMap (by trivial)]⟩
  · have hne := kk_ne ha hb hp ht e
    have e1 : F.put p t x a b = F a b := by unfold Hm.put; rw [if_neg e]
    rw [has_put_other hne, e1]
    refine ⟨(h1 a b ha hb).1, fun y hy => ⟨((h1 a b ha hb).2 y hy).1, fun z => ?_⟩⟩
    rw [atKey_put_other hne]; exact ((h1 a b ha hb).2 y hy).2 z
theorem Mh.drop {w : World} {mb : Nat} {F : Hm} {n : Nat} (h : Mh w mb F n) {p t : Int} (hp : wfI p) (ht : wfI t) (ty : TypeId) :
    ∃ w', (Builtin.delete_ #[31, 35] ty #[.map (some mb), .agg #[.int .i64 p, .int .i64 t]]).run Try.prog w = .ok (.tuple #[]) w' ∧ Mh w' mb (F.del p t) (n - if (F p t).isSome then 1 else 0) ∧ w.mapTurned w' mb := by
  obtain ⟨D, h, hs, h1⟩ := h
  obtain ⟨w', hrun, ho, hT⟩ := h.drop law35 Try.underlying31 (key35 hp ht) ty
  have hsz : Maps.size (D.del (kk p t)) = n - if (F p t).isSome then 1 else 0 := by
    have := size_del (k := kk p t) (h.tidy law35)
    rw [(h1 p t hp ht).1, hs] at this
    omega
  refine ⟨w', hrun, ⟨D.del (kk p t), hsz ▸ owns_tight ho, hsz, fun a b ha hb => ?_⟩, hT⟩
  by_cases e : a = p ∧ b = t
  · obtain ⟨rfl, rfl⟩ := e
    refine ⟨by rw [has_del_same]; simp [Hm.del], fun y hy => ?_⟩
    simp [Hm.del] at hy
  · have hne := kk_ne ha hb hp ht e
    have e1 : F.del p t a b = F a b := by unfold Hm.del; rw [if_neg e]
    rw [has_del_other hne, e1]
    refine ⟨(h1 a b ha hb).1, fun y hy => ⟨((h1 a b ha hb).2 y hy).1, fun z => ?_⟩⟩
    rw [atKey_del_other hne]; exact ((h1 a b ha hb).2 y hy).2 z
end Go.Proofs.Ytchiajedajabnaa
