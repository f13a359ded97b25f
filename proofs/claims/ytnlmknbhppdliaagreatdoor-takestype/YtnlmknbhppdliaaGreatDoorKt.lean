/-
  Data in blocks of one type; rows that grow; a rule of raw numbers in memory.
-/
import Derived.Maps.AppendAt
import Derived.Test.YtnlmknbhppdliaaGreatDoorDt
import Derived.Test.YtnlmknbhppdliaaGreatDoorA
import Derived.Test.YtnlmknbhppdliaaGreatDoorS
namespace Go.Proofs.YtnlmknbhppdliaaGreatDoor.Chk
open Go.ChangeShapes Go.WideShapes Go.ChangeAt Go.RowKit Go.Maps
set_option linter.unusedVariables false
set_option linter.unusedSimpArgs false
set_option maxRecDepth 20000
def TB (w : World) (t : TypeId) (i : Nat) : Prop := ∃ cs, w.heap[i]? = some (.cells cs t (0, 0))
theorem TB.lt {w : World} {t : TypeId} {i : Nat} (h : TB w t i) : i < w.heap.size := by obtain ⟨cs, e⟩ := h; exact zAD e
theorem TB.ne {w : World} {t u : TypeId} {i j : Nat} (h : TB w t i) (k : TB w u j) (hn : t ≠ u) : i ≠ j := fun c => by
  subst c
  obtain ⟨cs, e⟩ := h
  obtain ⟨ds, f⟩ := k
  rw [e] at f
  simp at f
  exact hn f.2
def KT (w : World) (n : Nat) (τ : Nat → Prop) (ds : List Dat) (vs : List Value) : Prop := ∀ W : World, (∀ i t, n ≤ i → τ t → TB w t i → W.heap[i]? = w.heap[i]?) → RdL W ds vs
abbrev isC (t : Nat) : Prop := t = 46
abbrev isQ (t : Nat) : Prop := t = 63
section
variable {w w' : World} {n n' : Nat} {u e z : Nat} {τ τ' : Nat → Prop} {ds es : List Dat} {vs us : List Value} {v v' : Value} {l : List (List Dat)}
theorem KT.mono (h : KT w n τ ds vs) (hn : n' ≤ n) (hb : ∀ i t, n ≤ i → τ t → TB w t i → w'.heap[i]? = w.heap[i]?) : KT w' n' τ ds vs := fun W hW => h W fun i t hi hq ht => by
  have e := hb i t hi hq ht
  refine (hW i t (by omega) hq ?_).trans e
  obtain ⟨cs, c⟩ := ht
  exact ⟨cs, e.trans c⟩
theorem KT.below (h : KT w n τ ds vs) (hb : Below w.heap.size w w') : KT w' n τ ds vs := h.mono (Nat.le_refl _) fun i t _ _ ht => hb.block i ht.lt
theorem KT.low (h : KT w n τ ds vs) (hn : n' ≤ n) : KT w n' τ ds vs := h.mono hn fun _ _ _ _ _ => rfl
theorem KT.fr {b : Nat} (h : KT w n τ ds vs) (hf : Fr (fun i => i = b) w w') (hb : TB w u b) (hu : ¬ τ u) : KT w' n τ ds vs := h.mono (Nat.le_refl _) fun i t _ hq ht => hf.block i ht.lt (fun c => hb.ne ht (fun e => hu (e ▸ hq)) c.symm)
theorem KT.rd (h : KT w n τ ds vs) : RdL w ds vs := h w fun _ _ _ _ _ => rfl
theorem KT.app (h : KT w n τ ds vs) (k : KT w n τ es us) : KT w n τ (ds ++ es) (vs ++ us) := fun W hW => zBU (h W hW) (k W hW)
theorem KT.lits (w : World) (n : Nat) (τ : Nat → Prop) (vs : List Value) : KT w n τ (vs.map Dat.lit) vs := fun W _ => zAX vs
theorem KT.cons (v : Value) (h : KT w n τ ds vs) : KT w n τ (.lit v :: ds) (v :: vs) := fun W hW => .cons (.lit _) (h W hW)
theorem KT.nil (w : World) (n : Nat) (τ : Nat → Prop) : KT w n τ [] [] := fun W _ => RdL.nil W
def RwT (w : World) (n : Nat) (τ : Nat → Prop) (e z : Nat) (v : Value) (l : List (List Dat)) : Prop := ∃ xs, w.ownsRow n e z v l.length xs ∧ KT w n τ l.flatten xs
theorem zHH {xs : List Value} {m : Nat} (h : w.ownsRow n e z v m xs) {i : Nat} (hi : v.ownBlock = some i) : TB w e i ∧ n ≤ i := by
 rcases h.2 with ⟨rfl, _⟩ | ⟨g, cap, cur, rfl, h1, h2, _⟩
 . simp [Value.ownBlock] at hi
 . simp [Value.ownBlock] at hi
   subst hi
   exact ⟨⟨cur, h2⟩, h1⟩
theorem RwT.tb (h : RwT w n τ e z v l) {i : Nat} (hi : v.ownBlock = some i) : TB w e i ∧ n ≤ i := by obtain ⟨xs, h1, _⟩ := h; exact zHH h1 hi
theorem RwT.keep (h : RwT w n τ e z v l) (ho : ∀ i, v.ownBlock = some i → w'.heap[i]? = w.heap[i]?) (hb : ∀ i t, n ≤ i → τ t → TB w t i → w'.heap[i]? = w.heap[i]?) : RwT w' n τ e z v l := by
  obtain ⟨xs, h1, h2⟩ := h
  exact ⟨xs, zDW h1 ho, h2.mono (Nat.le_refl _) hb⟩
theorem RwT.below (h : RwT w n τ e z v l) (hb : Below w.heap.size w w') : RwT w' n τ e z v l := h.keep (fun i hi => hb.block i (h.tb hi).1.lt) fun i t _ _ ht => hb.block i ht.lt
theorem RwT.nil (w : World) (n : Nat) (τ : Nat → Prop) (e z : Nat) : RwT w n τ e z (.slice none 0 0) [] := ⟨[], World.ownsRow_nil w n e z, KT.nil w n τ⟩
theorem RwT.shape (h : RwT w n τ e z v l) : ∃ p cap, v = .slice p l.length cap := by
  obtain ⟨xs, h1, _⟩ := h
  rcases h1.2 with ⟨h2, h3⟩ | ⟨g, cap, cur, h2, _⟩
  . exact ⟨none, 0, by rw [h2, h3]⟩
  . exact ⟨_, cap, h2⟩
theorem rd_own {xs : List Value} (h1 : w.ownsRow n e z v l.length xs) (h2 : RdL w l.flatten xs) : Rd w (.row e z l) v := by
 have hc := h1
 rcases h1.2 with ⟨rfl, h5⟩ | ⟨ga, cap, cur, rfl, _, _, hn, hx, _⟩
 . obtain rfl : l = [] := List.eq_nil_of_length_eq_zero h5
   exact .nil _ _ none 0 (Nat.zero_le _)
 . by_cases h0 : 0 < l.length
   . exact Rd.row (w := w) e z l ga 0 cap xs h0 hn hx (fun j u hu => by
      have := hc.cells (g := ga) rfl j u hu
      rw [Addr.add_mid] at this
      simpa using this) h2.1 h2.2
   . obtain rfl : l = [] := List.eq_nil_of_length_eq_zero (by omega)
     exact .nil _ _ _ cap hx
theorem RwT.rd (h : RwT w n τ e z v l) : Rd w (.row e z l) v := by obtain ⟨xs, h1, h2⟩ := h; exact rd_own h1 h2.rd
theorem RwT.rdW (h : RwT w n τ e z v l) (W : World) (ho : ∀ i, v.ownBlock = some i → W.heap[i]? = w.heap[i]?) (hb : ∀ i t, n ≤ i → τ t → TB w t i → W.heap[i]? = w.heap[i]?) : Rd W (.row e z l) v := (h.keep (w' := W) ho hb).rd
end
theorem zCI {P : Program} {o : Oper} {a : Act} {W : World} {K : Act → World → Prop} {Q : Exit → Act → World → Prop} (s x : Operand) (T : TypeId) (ho : o.op = .call { callee := .builtin .append, args := #[s, x], argTypes := #[T, T] }) (n : Nat) (τ : Nat → Prop) (e z bytes : Nat) (i0 : TypeInfo) (zv : Value) (hu : P.underlying T = some (.slice e)) (hi : P.info? e = some i0) (hz : i0.zero = some zv) (hz1 : i0.size = z) (hz2 : i0.bytes = bytes) (hzc : zv.cells.size = z) (hz0 : 0 < z) (hby : bytes ≤ 1000)
  (v : Value) (l : List (List Dat)) (hs : a.eval s = v) (hr : RwT W n τ e z v l) (hbase : n ≤ W.heap.size) (b : Nat) (us : List Value) (hx : a.eval x = .slice (some ⟨b, 0, none⟩) 1 1) (hb : W.heap[b]? = some (.cells us.toArray e (0, 0))) (hl : us.length = z) (h1 : us.all (·.oneCell') = true) (d : List Dat) (hd : KT W n τ d us) (het : ¬ τ e) (h10 : l.length ≤ 10) (m : Nat) (hm : l.length + 1 = m)
  (h : ∀ p' cap' W', RwT W' n τ e z (.slice p' m cap') (l ++ [d]) → W.grownBy W' v.ownBlock → ((Value.slice p' m cap').ownBlock = v.ownBlock ∨ (Value.slice p' m cap').ownBlock = some W.heap.size) → K (a.put o.dst (.slice p' m cap')) W') : Oper.wp P o a W K Q := by
 obtain ⟨xs, r1, r2⟩ := hr
 obtain ⟨v', w', q0, q1, q2, _, q4⟩ := run_append_own_at (P := P) W n T o.type e i0 zv z bytes hu hi hz hz1 hz2 hzc hz0 v l.length xs r1 ⟨b, 0, none⟩ 1 1 us (by omega) (fun j u hj => by rw [Addr.add_mid, zAB hb]; simpa using hj) (List.all_eq_true.1 h1) (by unfold maxLen; omega) (by have : (l.length + 1) * bytes ≤ 11 * 1000 := Nat.mul_le_mul (by omega) hby; omega) hbase
 unfold Oper.wp execOp
 simp only [ho, resolve, invoke, builtin, Sem.run_bind, Sem.run_pure, Result.andThen_ok, List.map_toArray, List.map_cons, List.map_nil, hs, hx, q0]
 have hrw : RwT w' n τ e z v' (l ++ [d]) := by
  refine ⟨xs ++ us, by simpa using q1, ?_⟩
  rw [List.flatten_append, show [d].flatten = d by simp]
  exact (r2.app hd).mono (Nat.le_refl _) fun i t _ hq ht => q2.block i ht.lt fun c => (zHH r1 c.symm).1.ne ht (fun e9 => het (e9 ▸ hq)) rfl
 obtain ⟨p', cap', hv⟩ := hrw.shape
 rw [List.length_append, List.length_singleton, hm] at hv
 subst hv
 exact h p' cap' w' hrw q2 q4
def Ap (u v : Value) : Prop := ∀ i, u.ownBlock = some i → v.ownBlock ≠ some i
abbrev rlC (nm : ByteArray) (wv tv mv kv : Value) (ety : ByteArray) (ev : Value) : List Value := [.string nm, wv, tv, mv, kv, .string ety, ev]
structure Ru (w0 w : World) (pc : List Value) (r : Rl) (kn al : List ByteArray) (wv tv mv kv nv av : Value) : Prop where
  bel : Below w0.heap.size w0 w
  pb : w.heap[w0.heap.size]? = some (.cells pc.toArray 88 (0, 0))
  zb : w.heap[w0.heap.size + 1]? = some (.cells (rlC (txt []) (.slice none 0 0) (.slice none 0 0) (.slice none 0 0) (.slice none 0 0) (txt []) (.slice none 0 0)).toArray 56 (0, 0))
  ub : w.heap[w0.heap.size + 2]? = some (.cells (rlC r.n wv tv mv kv (txt []) (.slice none 0 0)).toArray 56 (0, 0))
  r1 : RwT w w0.heap.size isC 48 18 wv (r.w.map encP)
  r2 : RwT w w0.heap.size isC 48 18 tv (r.t.map encP)
  r3 : RwT w w0.heap.size isC 78 20 mv (r.m.map encM)
  r4 : RwT w w0.heap.size isQ 66 3 kv (r.k.map encK)
  r6 : RwT w w0.heap.size isC 9 1 nv (kn.map encS)
  r7 : RwT w w0.heap.size isC 9 1 av (al.map encS)
  d1 : Ap wv tv
  d2 : Ap nv av
section
variable {w0 w w5 w6 : World} {pc : List Value} {r : Rl} {kn al : List ByteArray} {wv tv mv kv nv av v' : Value}
theorem Ru.below (h : Ru w0 w pc r kn al wv tv mv kv nv av) (hb : Below w.heap.size w w5) : Ru w0 w5 pc r kn al wv tv mv kv nv av :=
  ⟨zAA h.bel hb h.bel.size, (hb.block _ (zAD h.pb)).trans h.pb, (hb.block _ (zAD h.zb)).trans h.zb, (hb.block _ (zAD h.ub)).trans h.ub, h.r1.below hb, h.r2.below hb, h.r3.below hb, h.r4.below hb, h.r6.below hb, h.r7.below hb, h.d1, h.d2⟩
theorem Ru.tu (h : Ru w0 w pc r kn al wv tv mv kv nv av) : TB w 56 (w0.heap.size + 2) := ⟨_, h.ub⟩
theorem Ru.grown (h : Ru w0 w pc r kn al wv tv mv kv nv av) {row : Option Nat} (hg : w.grownBy w5 row) (hr : ∀ k, row = some k → w0.heap.size ≤ k ∧ k ≠ w0.heap.size ∧ k ≠ w0.heap.size + 1 ∧ k ≠ w0.heap.size + 2) :
  Below w0.heap.size w0 w5 ∧ w5.heap[w0.heap.size]? = w.heap[w0.heap.size]? ∧ w5.heap[w0.heap.size + 1]? = w.heap[w0.heap.size + 1]? ∧ w5.heap[w0.heap.size + 2]? = w.heap[w0.heap.size + 2]? :=
 ⟨h.bel.grown hg h.bel.size (fun k hk => (hr k hk).1), hg.block _ (zAD h.pb) (fun c => (hr _ c.symm).2.1 rfl), hg.block _ (zAD h.zb) (fun c => (hr _ c.symm).2.2.1 rfl), hg.block _ (zAD h.ub) (fun c => (hr _ c.symm).2.2.2 rfl)⟩
theorem Ru.boxes (h : Ru w0 w pc r kn al wv tv mv kv nv av) {t k : Nat} (ht : TB w t k) (hk : w0.heap.size ≤ k) (h1 : t ≠ 56) (h2 : t ≠ 88) : w0.heap.size ≤ k ∧ k ≠ w0.heap.size ∧ k ≠ w0.heap.size + 1 ∧ k ≠ w0.heap.size + 2 :=
  ⟨hk, ht.ne ⟨_, h.pb⟩ h2, ht.ne ⟨_, h.zb⟩ h1, ht.ne ⟨_, h.ub⟩ h1⟩
theorem RwT.other {n e z e' : Nat} {τ : Nat → Prop} {v : Value} {l : List (List Dat)} {row : Option Nat} (h : RwT w n τ e z v l) (hg : w.grownBy w5 row) (hr : ∀ k, row = some k → TB w e' k) (ho : ∀ k, row = some k → v.ownBlock ≠ some k) (het : ¬ τ e') : RwT w5 n τ e z v l :=
  h.keep (fun i hi => hg.block i (h.tb hi).1.lt fun c => ho i c.symm hi) fun i t _ hq ht => hg.block i ht.lt fun c => (hr i c.symm).ne ht (fun e9 => het (e9 ▸ hq)) rfl
theorem RwT.otherT {n e z e' : Nat} {τ : Nat → Prop} {v : Value} {l : List (List Dat)} {row : Option Nat} (h : RwT w n τ e z v l) (hg : w.grownBy w5 row) (hr : ∀ k, row = some k → TB w e' k) (he : e' ≠ e) (het : ¬ τ e') : RwT w5 n τ e z v l :=
  h.other hg hr (fun k hk c => (hr k hk).ne (h.tb c).1 he rfl) het
theorem Ap.step {u v v' : Value} {s : Nat} (h : Ap u v) (hv : v'.ownBlock = u.ownBlock ∨ v'.ownBlock = some s) (hs : ∀ i, v.ownBlock = some i → i < s) : Ap v' v := fun i hi c => by
 rcases hv with e | e
 . exact h i (e ▸ hi) c
 . rw [e] at hi
   cases hi
   have := hs _ c
   omega
theorem Ap.symm {u v : Value} (h : Ap u v) : Ap v u := fun i hi c => h i c hi
theorem RwT.set {n e z b u : Nat} {τ : Nat → Prop} {v : Value} {l : List (List Dat)} (h : RwT w n τ e z v l) (hf : Fr (fun i => i = b) w w6) (hb : TB w u b) (h1 : u ≠ e) (h2 : ¬ τ u) : RwT w6 n τ e z v l :=
  h.keep (fun i hi => hf.block i (h.tb hi).1.lt fun c => hb.ne (h.tb hi).1 h1 c.symm) fun i t _ hq ht => hf.block i ht.lt fun c => hb.ne ht (fun e9 => h2 (e9 ▸ hq)) c.symm
theorem Ru.bl (h : Ru w0 w pc r kn al wv tv mv kv nv av) : w0.heap.size + 2 < w.heap.size := zAD h.ub
end
section
variable {w0 w w5 w6 : World} {pc : List Value} {r : Rl} {kn al : List ByteArray} {wv tv mv kv nv av v' : Value}
theorem zCR {n e z : Nat} {τ : Nat → Prop} {v : Value} {l : List (List Dat)} (h : RwT w n τ e z v l) : ∀ k, v.ownBlock = some k → TB w e k := fun k hk => (h.tb hk).1
theorem Ru.app_wv {x : Pt} (h : Ru w0 w pc r kn al wv tv mv kv nv av) (hg : w.grownBy w5 wv.ownBlock) (hv : v'.ownBlock = wv.ownBlock ∨ v'.ownBlock = some w.heap.size) (hr : RwT w5 w0.heap.size isC 48 18 v' (r.w.map encP ++ [encP x])) (hu : w6.heap[w0.heap.size + 2]? = some (.cells (rlC r.n v' tv mv kv (txt []) (.slice none 0 0)).toArray 56 (0, 0))) (hf : Fr (fun i => i = w0.heap.size + 2) w5 w6) : Ru w0 w6 pc { r with w := r.w ++ [x] } kn al v' tv mv kv nv av := by
  have hT := zCR h.r1
  obtain ⟨b0, b1, b2, b3⟩ := h.grown hg (fun k hk => h.boxes (hT k hk) (h.r1.tb hk).2 (by decide) (by decide))
  have tu : TB w5 56 (w0.heap.size + 2) := ⟨_, b3.trans h.ub⟩
  exact ⟨zAG b0 hf (by omega), (hf.block _ (zAD (b1.trans h.pb)) (by show w0.heap.size ≠ w0.heap.size + 2; omega)).trans (b1.trans h.pb), (hf.block _ (zAD (b2.trans h.zb)) (by show w0.heap.size + 1 ≠ w0.heap.size + 2; omega)).trans (b2.trans h.zb), hu, (by rw [List.map_append]; exact hr.set hf tu (by decide) (by decide)), ((h.r2.other hg hT (fun k hk c => h.d1.symm k c hk) (by decide)).set hf tu (by decide) (by decide)), ((h.r3.otherT hg hT (by decide) (by decide)).set hf tu (by decide) (by decide)), ((h.r4.otherT hg hT (by decide) (by decide)).set hf tu (by decide) (by decide)), ((h.r6.otherT hg hT (by decide) (by decide)).set hf tu (by decide) (by decide)), ((h.r7.otherT hg hT (by decide) (by decide)).set hf tu (by decide) (by decide)), (h.d1.step hv (fun i hi => (h.r2.tb hi).1.lt)), h.d2⟩
theorem Ru.ub_wv (h : Ru w0 w pc r kn al wv tv mv kv nv av) (hg : w.grownBy w5 wv.ownBlock) : w5.heap[w0.heap.size + 2]? = some (.cells (rlC r.n wv tv mv kv (txt []) (.slice none 0 0)).toArray 56 (0, 0)) := ((h.grown hg (fun k hk => h.boxes (zCR h.r1 k hk) (h.r1.tb hk).2 (by decide) (by decide))).2.2.2).trans h.ub
theorem Ru.app_tv {x : Pt} (h : Ru w0 w pc r kn al wv tv mv kv nv av) (hg : w.grownBy w5 tv.ownBlock) (hv : v'.ownBlock = tv.ownBlock ∨ v'.ownBlock = some w.heap.size) (hr : RwT w5 w0.heap.size isC 48 18 v' (r.t.map encP ++ [encP x])) (hu : w6.heap[w0.heap.size + 2]? = some (.cells (rlC r.n wv v' mv kv (txt []) (.slice none 0 0)).toArray 56 (0, 0))) (hf : Fr (fun i => i = w0.heap.size + 2) w5 w6) : Ru w0 w6 pc { r with t := r.t ++ [x] } kn al wv v' mv kv nv av := by
  have hT := zCR h.r2
  obtain ⟨b0, b1, b2, b3⟩ := h.grown hg (fun k hk => h.boxes (hT k hk) (h.r2.tb hk).2 (by decide) (by decide))
  have tu : TB w5 56 (w0.heap.size + 2) := ⟨_, b3.trans h.ub⟩
  exact ⟨zAG b0 hf (by omega), (hf.block _ (zAD (b1.trans h.pb)) (by show w0.heap.size ≠ w0.heap.size + 2; omega)).trans (b1.trans h.pb), (hf.block _ (zAD (b2.trans h.zb)) (by show w0.heap.size + 1 ≠ w0.heap.size + 2; omega)).trans (b2.trans h.zb), hu, ((h.r1.other hg hT (fun k hk c => h.d1 k c hk) (by decide)).set hf tu (by decide) (by decide)), (by rw [List.map_append]; exact hr.set hf tu (by decide) (by decide)), ((h.r3.otherT hg hT (by decide) (by decide)).set hf tu (by decide) (by decide)), ((h.r4.otherT hg hT (by decide) (by decide)).set hf tu (by decide) (by decide)), ((h.r6.otherT hg hT (by decide) (by decide)).set hf tu (by decide) (by decide)), ((h.r7.otherT hg hT (by decide) (by decide)).set hf tu (by decide) (by decide)), (h.d1.symm.step hv (fun i hi => (h.r1.tb hi).1.lt)).symm, h.d2⟩
theorem Ru.ub_tv (h : Ru w0 w pc r kn al wv tv mv kv nv av) (hg : w.grownBy w5 tv.ownBlock) : w5.heap[w0.heap.size + 2]? = some (.cells (rlC r.n wv tv mv kv (txt []) (.slice none 0 0)).toArray 56 (0, 0)) := ((h.grown hg (fun k hk => h.boxes (zCR h.r2 k hk) (h.r2.tb hk).2 (by decide) (by decide))).2.2.2).trans h.ub
theorem Ru.app_mv {x : Mn} (h : Ru w0 w pc r kn al wv tv mv kv nv av) (hg : w.grownBy w5 mv.ownBlock) (hv : v'.ownBlock = mv.ownBlock ∨ v'.ownBlock = some w.heap.size) (hr : RwT w5 w0.heap.size isC 78 20 v' (r.m.map encM ++ [encM x])) (hu : w6.heap[w0.heap.size + 2]? = some (.cells (rlC r.n wv tv v' kv (txt []) (.slice none 0 0)).toArray 56 (0, 0))) (hf : Fr (fun i => i = w0.heap.size + 2) w5 w6) : Ru w0 w6 pc { r with m := r.m ++ [x] } kn al wv tv v' kv nv av := by
  have hT := zCR h.r3
  obtain ⟨b0, b1, b2, b3⟩ := h.grown hg (fun k hk => h.boxes (hT k hk) (h.r3.tb hk).2 (by decide) (by decide))
  have tu : TB w5 56 (w0.heap.size + 2) := ⟨_, b3.trans h.ub⟩
  exact ⟨zAG b0 hf (by omega), (hf.block _ (zAD (b1.trans h.pb)) (by show w0.heap.size ≠ w0.heap.size + 2; omega)).trans (b1.trans h.pb), (hf.block _ (zAD (b2.trans h.zb)) (by show w0.heap.size + 1 ≠ w0.heap.size + 2; omega)).trans (b2.trans h.zb), hu, ((h.r1.otherT hg hT (by decide) (by decide)).set hf tu (by decide) (by decide)), ((h.r2.otherT hg hT (by decide) (by decide)).set hf tu (by decide) (by decide)), (by rw [List.map_append]; exact hr.set hf tu (by decide) (by decide)), ((h.r4.otherT hg hT (by decide) (by decide)).set hf tu (by decide) (by decide)), ((h.r6.otherT hg hT (by decide) (by decide)).set hf tu (by decide) (by decide)), ((h.r7.otherT hg hT (by decide) (by decide)).set hf tu (by decide) (by decide)), h.d1, h.d2⟩
theorem Ru.ub_mv (h : Ru w0 w pc r kn al wv tv mv kv nv av) (hg : w.grownBy w5 mv.ownBlock) : w5.heap[w0.heap.size + 2]? = some (.cells (rlC r.n wv tv mv kv (txt []) (.slice none 0 0)).toArray 56 (0, 0)) := ((h.grown hg (fun k hk => h.boxes (zCR h.r3 k hk) (h.r3.tb hk).2 (by decide) (by decide))).2.2.2).trans h.ub
theorem Ru.app_kv {x : Lk} (h : Ru w0 w pc r kn al wv tv mv kv nv av) (hg : w.grownBy w5 kv.ownBlock) (hv : v'.ownBlock = kv.ownBlock ∨ v'.ownBlock = some w.heap.size) (hr : RwT w5 w0.heap.size isQ 66 3 v' (r.k.map encK ++ [encK x])) (hu : w6.heap[w0.heap.size + 2]? = some (.cells (rlC r.n wv tv mv v' (txt []) (.slice none 0 0)).toArray 56 (0, 0))) (hf : Fr (fun i => i = w0.heap.size + 2) w5 w6) : Ru w0 w6 pc { r with k := r.k ++ [x] } kn al wv tv mv v' nv av := by
  have hT := zCR h.r4
  obtain ⟨b0, b1, b2, b3⟩ := h.grown hg (fun k hk => h.boxes (hT k hk) (h.r4.tb hk).2 (by decide) (by decide))
  have tu : TB w5 56 (w0.heap.size + 2) := ⟨_, b3.trans h.ub⟩
  exact ⟨zAG b0 hf (by omega), (hf.block _ (zAD (b1.trans h.pb)) (by show w0.heap.size ≠ w0.heap.size + 2; omega)).trans (b1.trans h.pb), (hf.block _ (zAD (b2.trans h.zb)) (by show w0.heap.size + 1 ≠ w0.heap.size + 2; omega)).trans (b2.trans h.zb), hu, ((h.r1.otherT hg hT (by decide) (by decide)).set hf tu (by decide) (by decide)), ((h.r2.otherT hg hT (by decide) (by decide)).set hf tu (by decide) (by decide)), ((h.r3.otherT hg hT (by decide) (by decide)).set hf tu (by decide) (by decide)), (by rw [List.map_append]; exact hr.set hf tu (by decide) (by decide)), ((h.r6.otherT hg hT (by decide) (by decide)).set hf tu (by decide) (by decide)), ((h.r7.otherT hg hT (by decide) (by decide)).set hf tu (by decide) (by decide)), h.d1, h.d2⟩
theorem Ru.ub_kv (h : Ru w0 w pc r kn al wv tv mv kv nv av) (hg : w.grownBy w5 kv.ownBlock) : w5.heap[w0.heap.size + 2]? = some (.cells (rlC r.n wv tv mv kv (txt []) (.slice none 0 0)).toArray 56 (0, 0)) := ((h.grown hg (fun k hk => h.boxes (zCR h.r4 k hk) (h.r4.tb hk).2 (by decide) (by decide))).2.2.2).trans h.ub
theorem Ru.app_nv {x : ByteArray} (h : Ru w0 w pc r kn al wv tv mv kv nv av) (hg : w.grownBy w5 nv.ownBlock) (hv : v'.ownBlock = nv.ownBlock ∨ v'.ownBlock = some w.heap.size) (hr : RwT w5 w0.heap.size isC 9 1 v' (kn.map encS ++ [encS x])) : Ru w0 w5 pc r (kn ++ [x]) al wv tv mv kv v' av := by
  have hT := zCR h.r6
  obtain ⟨b0, b1, b2, b3⟩ := h.grown hg (fun k hk => h.boxes (hT k hk) (h.r6.tb hk).2 (by decide) (by decide))
  exact ⟨b0, b1.trans h.pb, b2.trans h.zb, b3.trans h.ub, (h.r1.otherT hg hT (by decide) (by decide)), (h.r2.otherT hg hT (by decide) (by decide)), (h.r3.otherT hg hT (by decide) (by decide)), (h.r4.otherT hg hT (by decide) (by decide)), (by rw [List.map_append]; exact hr), (h.r7.other hg hT (fun k hk c => h.d2.symm k c hk) (by decide)), h.d1, (h.d2.step hv (fun i hi => (h.r7.tb hi).1.lt))⟩
theorem Ru.app_av {x : ByteArray} (h : Ru w0 w pc r kn al wv tv mv kv nv av) (hg : w.grownBy w5 av.ownBlock) (hv : v'.ownBlock = av.ownBlock ∨ v'.ownBlock = some w.heap.size) (hr : RwT w5 w0.heap.size isC 9 1 v' (al.map encS ++ [encS x])) : Ru w0 w5 pc r kn (al ++ [x]) wv tv mv kv nv v' := by
  have hT := zCR h.r7
  obtain ⟨b0, b1, b2, b3⟩ := h.grown hg (fun k hk => h.boxes (hT k hk) (h.r7.tb hk).2 (by decide) (by decide))
  exact ⟨b0, b1.trans h.pb, b2.trans h.zb, b3.trans h.ub, (h.r1.otherT hg hT (by decide) (by decide)), (h.r2.otherT hg hT (by decide) (by decide)), (h.r3.otherT hg hT (by decide) (by decide)), (h.r4.otherT hg hT (by decide) (by decide)), (h.r6.other hg hT (fun k hk c => h.d2 k c hk) (by decide)), (by rw [List.map_append]; exact hr), h.d1, (h.d2.symm.step hv (fun i hi => (h.r6.tb hi).1.lt)).symm⟩
end
end Go.Proofs.YtnlmknbhppdliaaGreatDoor.Chk
