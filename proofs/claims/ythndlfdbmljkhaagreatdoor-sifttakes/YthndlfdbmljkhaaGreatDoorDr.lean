/-
  What comes of itself: ways by types, closed one type after the other, are ways by rules.
-/
import Derived.Test.YthndlfdbmljkhaaGreatDoorCr
namespace Go.Proofs.YthndlfdbmljkhaaGreatDoor.Chk
open Go.ChangeShapes Go.WideShapes Go.ChangeAt Go.RowKit Go.Maps
set_option linter.unusedVariables false
set_option linter.unusedSimpArgs false
set_option maxRecDepth 20000
/-! Ways of rules: as many steps as there are rules are enough. -/
def gdr (rs : List Rl) (ot : ByteArray) : Nat → Rl → Bool
  | 0, _ => false
  | n + 1, x => !(emp x.e.ty) && (seq x.e.ty ot || cmo rs ot n x.e.ty)
theorem cmo_gdr (rs : List Rl) (ot : ByteArray) (n : Nat) (nm : ByteArray) : cmo rs ot n nm = rs.any fun x => spk x.w x.t x.m nm && gdr rs ot n x := by
  cases n with
  | zero => rw [cmo]; symm; rw [List.any_eq_false]; intro x _; simp [gdr]
  | succ n =>
    rw [cmo]
    congr 1
    funext x
    rw [gdr]
    cases emp x.e.ty <;> cases spk x.w x.t x.m nm <;> simp
theorem gdr_step {rs : List Rl} {ot : ByteArray} {a b : Nat} (h : ∀ x, x ∈ rs → gdr rs ot a x = gdr rs ot b x) (x : Rl) : gdr rs ot (a + 1) x = gdr rs ot (b + 1) x := by
  rw [gdr, gdr, cmo_gdr, cmo_gdr]
  have e : (rs.any fun y => spk y.w y.t y.m x.e.ty && gdr rs ot a y) = (rs.any fun y => spk y.w y.t y.m x.e.ty && gdr rs ot b y) := by
    rw [Bool.eq_iff_iff, List.any_eq_true, List.any_eq_true]
    constructor
    · rintro ⟨y, hy, h1⟩; exact ⟨y, hy, by rw [← h y hy]; exact h1⟩
    · rintro ⟨y, hy, h1⟩; exact ⟨y, hy, by rw [h y hy]; exact h1⟩
  rw [e]
theorem gdr_mono (rs : List Rl) (ot : ByteArray) : ∀ (n : Nat) (x : Rl), gdr rs ot n x = true → gdr rs ot (n + 1) x = true
  | 0, x, h => by simp [gdr] at h
  | n + 1, x, h => by
    rw [gdr] at h ⊢
    rw [Bool.and_eq_true, Bool.or_eq_true] at h ⊢
    refine ⟨h.1, h.2.imp id fun c => ?_⟩
    rw [cmo_gdr, List.any_eq_true] at c ⊢
    obtain ⟨y, hy, h1⟩ := c
    rw [Bool.and_eq_true] at h1
    exact ⟨y, hy, by rw [Bool.and_eq_true]; exact ⟨h1.1, gdr_mono rs ot n y h1.2⟩⟩
theorem gdr_le {rs : List Rl} {ot : ByteArray} {a b : Nat} (h : a ≤ b) (x : Rl) (hx : gdr rs ot a x = true) : gdr rs ot b x = true := by
  induction b with
  | zero => rw [show a = 0 by omega] at hx; exact hx
  | succ b ih =>
    by_cases c : a ≤ b
    · exact gdr_mono rs ot b x (ih c)
    · obtain rfl : a = b + 1 := by omega
      exact hx
theorem gdr_fix {rs : List Rl} {ot : ByteArray} {a : Nat} (h : ∀ x, x ∈ rs → gdr rs ot a x = gdr rs ot (a + 1) x) : ∀ (d : Nat) (x : Rl), x ∈ rs → gdr rs ot a x = gdr rs ot (a + d) x
  | 0, x, hx => rfl
  | d + 1, x, hx => by
    have ih := gdr_fix h d
    rw [h x hx]
    exact gdr_step ih x
theorem countP_lt {α : Type} {p q : α → Bool} : ∀ (l : List α), (∀ x, p x = true → q x = true) → (∃ x, x ∈ l ∧ q x = true ∧ p x = false) → l.countP p < l.countP q
  | [], _, ⟨x, hx, _⟩ => by cases hx
  | y :: r, h, ⟨x, hx, h1, h2⟩ => by
    have hle : r.countP p ≤ r.countP q := List.countP_mono_left fun z _ hz => h z hz
    rw [List.countP_cons, List.countP_cons]
    rcases List.mem_cons.1 hx with rfl | hx
    · rw [if_pos h1, if_neg (by rw [h2]; decide)]; omega
    · have := countP_lt r h ⟨x, hx, h1, h2⟩
      by_cases c : p y = true
      · rw [if_pos c, if_pos (h y c)]; omega
      · rw [if_neg c]; split <;> omega
theorem gdr_stable (rs : List Rl) (ot : ByteArray) : ∃ n, n ≤ rs.length ∧ ∀ x, x ∈ rs → gdr rs ot n x = gdr rs ot (n + 1) x := by
  refine Classical.byContradiction fun hno => ?_
  have hs : ∀ n, n ≤ rs.length → ∃ x, x ∈ rs ∧ gdr rs ot (n + 1) x = true ∧ gdr rs ot n x = false := fun n hn => by
    refine Classical.byContradiction fun hc => hno ⟨n, hn, fun x hx => ?_⟩
    cases h1 : gdr rs ot n x with
    | true => exact (gdr_mono rs ot n x h1).symm
    | false =>
      cases h2 : gdr rs ot (n + 1) x with
      | false => rfl
      | true => exact absurd ⟨x, hx, h2, h1⟩ hc
  have hcnt : ∀ n, n ≤ rs.length + 1 → n ≤ rs.countP (gdr rs ot n) := fun n => by
    induction n with
    | zero => intro _; omega
    | succ n ih =>
      intro hn
      have h1 := ih (by omega)
      have h2 := countP_lt rs (gdr_mono rs ot n) (hs n (by omega))
      omega
  have h1 := hcnt (rs.length + 1) (Nat.le_refl _)
  have h2 : rs.countP (gdr rs ot (rs.length + 1)) ≤ rs.length := List.countP_le_length
  omega
theorem cmo_enough (rs : List Rl) (ot nm : ByteArray) (n : Nat) (h : cmo rs ot n nm = true) : cmo rs ot rs.length nm = true := by
  obtain ⟨a, ha, hst⟩ := gdr_stable rs ot
  rw [cmo_gdr, List.any_eq_true] at h ⊢
  obtain ⟨x, hx, h1⟩ := h
  rw [Bool.and_eq_true] at h1
  refine ⟨x, hx, ?_⟩
  rw [Bool.and_eq_true]
  refine ⟨h1.1, ?_⟩
  have e1 := gdr_fix hst (rs.length - a) x hx
  have e2 := gdr_fix hst n x hx
  rw [show a + (rs.length - a) = rs.length by omega] at e1
  rw [← e1, e2]
  exact gdr_le (by omega) x h1.2
/-! Ways by types. -/
inductive Wlk (E : Nat → Nat → Prop) : Nat → Nat → Prop
  | one {i j : Nat} (h : E i j) : Wlk E i j
  | cons {i k j : Nat} (h : E i k) (t : Wlk E k j) : Wlk E i j
theorem Wlk.trans {E : Nat → Nat → Prop} {i k j : Nat} (h : Wlk E i k) (t : Wlk E k j) : Wlk E i j := by
  induction h with
  | one h => exact .cons h t
  | cons h _ ih => exact .cons h (ih t)
/-- Of a type some rule makes an event of another one. -/
def Edg (ts : List Tp) (rs : List Rl) (i j : Nat) : Prop :=
  ∃ x, x ∈ rs ∧ emp x.e.ty = false ∧ (∃ p, p ∈ x.w ++ x.t ++ x.m.map Mn.p ∧ tyq ts p.ty = (i : Int)) ∧ tyq ts x.e.ty = (j : Int)
/-- Rules whose types there are. -/
def Rok (ts : List Tp) (x : Rl) : Prop := (∀ p, p ∈ x.w ++ x.t ++ x.m.map Mn.p → ∃ i, ∃ _ : i < ts.length, tyq ts p.ty = (i : Int)) ∧ (emp x.e.ty = false → ∃ i, ∃ _ : i < ts.length, tyq ts x.e.ty = (i : Int))
theorem seq_refl (a : ByteArray) : seq a a = true := by unfold seq; simp
theorem seq_eq {a b : ByteArray} (h : seq a b = true) : a.toList = b.toList := by simpa [seq] using h
theorem seq_symm {a b : ByteArray} (h : seq a b = true) : seq b a = true := by have := seq_eq h; simp [seq, this]
theorem seq_trans {a b c : ByteArray} (h : seq a b = true) (k : seq b c = true) : seq a c = true := by have := seq_eq h; have := seq_eq k; simp [seq, *]
theorem spk_iff (x : Rl) (n : ByteArray) : spk x.w x.t x.m n = true ↔ ∃ p, p ∈ x.w ++ x.t ++ x.m.map Mn.p ∧ seq p.ty n = true := by
  unfold spk
  rw [Bool.or_eq_true, Bool.or_eq_true, List.any_eq_true, List.any_eq_true, List.any_eq_true]
  constructor
  · rintro ((⟨p, hp, h⟩ | ⟨p, hp, h⟩) | ⟨m, hm, h⟩)
    · exact ⟨p, by simp [hp], h⟩
    · exact ⟨p, by simp [hp], h⟩
    · exact ⟨m.p, by simp; exact .inr (.inr ⟨m, hm, rfl⟩), h⟩
  · rintro ⟨p, hp, h⟩
    rw [List.mem_append, List.mem_append] at hp
    rcases hp with (hp | hp) | hp
    · exact .inl (.inl ⟨p, hp, h⟩)
    · exact .inl (.inr ⟨p, hp, h⟩)
    · obtain ⟨m, hm, rfl⟩ := List.mem_map.1 hp
      exact .inr ⟨m, hm, h⟩
/-- A type that is found has the name. -/
theorem tyq_name {ts : List Tp} {n : ByteArray} {i : Nat} (hi : i < ts.length) (h : tyq ts n = (i : Int)) : seq ts[i].n n = true := by
  rcases ixq_lt (q := fun t : Tp => seq t.n n) ts 0 with c | ⟨j, hj, c, hq⟩
  · have c0 : tyq ts n = -1 := c
    omega
  · have c0 : tyq ts n = (j : Int) := by show ixq _ _ _ = _; rw [c]; simp
    obtain rfl : i = j := by omega
    exact hq
theorem ixq_congr {α : Type} {q r : α → Bool} (h : ∀ x, q x = r x) : ∀ (l : List α) (n : Nat), ixq q l n = ixq r l n
  | [], _ => rfl
  | x :: l, n => by rw [ixq, ixq, h x, ixq_congr h l (n + 1)]
theorem seq_congr {a b : ByteArray} (h : seq a b = true) (c : ByteArray) : seq c a = seq c b := by
  have := seq_eq h
  simp [seq, this]
theorem tyq_congr {ts : List Tp} {a b : ByteArray} (h : seq a b = true) : tyq ts a = tyq ts b := ixq_congr (q := fun t : Tp => seq t.n a) (r := fun t : Tp => seq t.n b) (fun t => seq_congr h t.n) ts 0
/-- Names that are all others. -/
def Dst (ts : List Tp) : Prop := ∀ i (hi : i < ts.length), tyq ts ts[i].n = (i : Int)
theorem ixq_any' {α : Type} {q : α → Bool} : ∀ (l : List α) (n : Nat), l.any q = false → ixq q l n = -1
  | [], n, _ => rfl
  | y :: r, n, h => by
    rw [List.any_cons, Bool.or_eq_false_iff] at h
    rw [ixq, if_neg (by rw [h.1]; decide), ixq_any' r (n + 1) h.2]
theorem tks_dst : ∀ (rest done : List Tp), tks done rest = 0 → ∀ i (hi : i < rest.length), tyq (done ++ rest.take i) rest[i].n < 0
  | [], done, _, i, hi => by simp at hi
  | t :: r, done, h, i, hi => by
    rw [tks] at h
    split at h
    · rename_i c; exact absurd h c
    · split at h
      · omega
      · split at h
        · omega
        · split at h
          · omega
          · rename_i c
            cases i with
            | zero => simpa using c
            | succ i =>
              have := tks_dst r (done ++ [t]) h i (by simpa using hi)
              simpa using this
theorem ixq_skip {α : Type} {q : α → Bool} : ∀ (l r : List α) (n : Nat), ixq q l n < 0 → ixq q (l ++ r) n = ixq q r (n + l.length)
  | [], r, n, _ => by simp
  | y :: l, r, n, h => by
    rw [ixq] at h
    by_cases c : q y = true
    · rw [if_pos c] at h; omega
    · rw [if_neg c] at h
      rw [List.cons_append, ixq, if_neg c, ixq_skip l r (n + 1) h]
      congr 1
      simp; omega
theorem dst_of {ts : List Tp} (h : tks [] ts = 0) : Dst ts := fun i hi => by
  have h1 := tks_dst ts [] h i hi
  rw [List.nil_append] at h1
  have e : ts = ts.take i ++ ts.drop i := (List.take_append_drop i ts).symm
  have e2 : ts.drop i = ts[i] :: ts.drop (i + 1) := List.drop_eq_getElem_cons hi
  have h2 : tyq ts ts[i].n = ixq (fun t : Tp => seq t.n ts[i].n) (ts.take i ++ ts.drop i) 0 := by rw [List.take_append_drop]; rfl
  rw [h2, ixq_skip _ _ _ h1, e2, ixq, if_pos (seq_refl _)]
  simp
  omega
theorem wlk_cmo {ts : List Tp} {rs : List Rl} {i j : Nat} (h : Wlk (Edg ts rs) i j) (hj : j < ts.length) (hr : ∀ x, x ∈ rs → Rok ts x) : ∀ (_ : i < ts.length), ∃ n, cmo rs ts[j].n n ts[i].n = true := by
  induction h with
  | @one i j h =>
    intro hi
    obtain ⟨x, hx, he, ⟨p, hp, h1⟩, h2⟩ := h
    refine ⟨1, ?_⟩
    rw [cmo, List.any_eq_true]
    refine ⟨x, hx, ?_⟩
    have a1 : spk x.w x.t x.m ts[i].n = true := (spk_iff x _).2 ⟨p, hp, seq_symm (tyq_name hi h1)⟩
    have a2 : seq x.e.ty ts[j].n = true := seq_symm (tyq_name hj h2)
    simp [he, a1, a2]
  | @cons i k j h _ ih =>
    intro hi
    obtain ⟨x, hx, he, ⟨p, hp, h1⟩, h2⟩ := h
    obtain ⟨k', hk', h3⟩ := (hr x hx).2 he
    obtain rfl : k = k' := by omega
    obtain ⟨n, hn⟩ := ih hj hk'
    refine ⟨n + 1, ?_⟩
    rw [cmo, List.any_eq_true]
    refine ⟨x, hx, ?_⟩
    have a1 : spk x.w x.t x.m ts[i].n = true := (spk_iff x _).2 ⟨p, hp, seq_symm (tyq_name hi h1)⟩
    have a2 : cmo rs ts[j].n n x.e.ty = true := by
      rw [cmo_gdr, List.any_eq_true] at hn ⊢
      obtain ⟨y, hy, h4⟩ := hn
      rw [Bool.and_eq_true] at h4
      refine ⟨y, hy, ?_⟩
      rw [Bool.and_eq_true]
      refine ⟨?_, h4.2⟩
      obtain ⟨p2, hp2, h5⟩ := (spk_iff y _).1 h4.1
      exact (spk_iff y _).2 ⟨p2, hp2, seq_trans h5 (tyq_name hk' h2)⟩
    simp [he, a1, a2]
theorem cmo_wlk {ts : List Tp} {rs : List Rl} (hd : Dst ts) (hr : ∀ x, x ∈ rs → Rok ts x) {j : Nat} (hj : j < ts.length) : ∀ (n i : Nat) (hi : i < ts.length), cmo rs ts[j].n n ts[i].n = true → Wlk (Edg ts rs) i j
  | 0, i, hi, h => by rw [cmo] at h; cases h
  | n + 1, i, hi, h => by
    rw [cmo, List.any_eq_true] at h
    obtain ⟨x, hx, h⟩ := h
    rw [Bool.and_eq_true, Bool.and_eq_true, Bool.or_eq_true] at h
    obtain ⟨h0, h1, h2⟩ := h
    have he : emp x.e.ty = false := by simpa using h0
    obtain ⟨k, hk, h3⟩ := (hr x hx).2 he
    obtain ⟨p, hp, h4⟩ := (spk_iff x _).1 h1
    have hed : Edg ts rs i k := ⟨x, hx, he, ⟨p, hp, by rw [tyq_congr h4]; exact hd i hi⟩, h3⟩
    rcases h2 with h2 | h2
    · have : tyq ts x.e.ty = (j : Int) := by rw [tyq_congr h2]; exact hd j hj
      obtain rfl : k = j := by omega
      exact .one hed
    · refine .cons hed (cmo_wlk hd hr hj n k hk ?_)
      rw [cmo_gdr, List.any_eq_true] at h2 ⊢
      obtain ⟨y, hy, h5⟩ := h2
      rw [Bool.and_eq_true] at h5
      refine ⟨y, hy, ?_⟩
      rw [Bool.and_eq_true]
      refine ⟨?_, h5.2⟩
      obtain ⟨p2, hp2, h6⟩ := (spk_iff y _).1 h5.1
      exact (spk_iff y _).2 ⟨p2, hp2, seq_trans h6 (seq_symm (tyq_name hk h3))⟩
/-! The matrix. -/
/-- Ways that go by one type more. -/
def byy (M : Nat → Nat → Bool) (b : Nat) : Nat → Nat → Bool := fun i j => M i j || (M i b && M b j)
def wsh (M : Nat → Nat → Bool) : Nat → Nat → Nat → Bool
  | 0 => M
  | b + 1 => byy (wsh M b) b
theorem wsh_wlk {E : Nat → Nat → Prop} {M : Nat → Nat → Bool} (h : ∀ i j, M i j = true → Wlk E i j) : ∀ (b i j : Nat), wsh M b i j = true → Wlk E i j
  | 0, i, j, c => h i j c
  | b + 1, i, j, c => by
    rw [wsh, byy, Bool.or_eq_true, Bool.and_eq_true] at c
    rcases c with c | ⟨c, d⟩
    · exact wsh_wlk h b i j c
    · exact (wsh_wlk h b i b c).trans (wsh_wlk h b b j d)
theorem wsh_grow (M : Nat → Nat → Bool) (b i j : Nat) (h : wsh M b i j = true) : wsh M (b + 1) i j = true := by rw [wsh, byy, h]; rfl
theorem wsh_base (M : Nat → Nat → Bool) (i j : Nat) (h : M i j = true) : ∀ b, wsh M b i j = true
  | 0 => h
  | b + 1 => wsh_grow M b i j (wsh_base M i j h b)
theorem wsh_by (M : Nat → Nat → Bool) : ∀ (b k i j : Nat), k < b → wsh M b i k = true → wsh M b k j = true → wsh M b i j = true
  | 0, k, i, j, hk, _, _ => by omega
  | b + 1, k, i, j, hk, h1, h2 => by
    rw [wsh, byy, Bool.or_eq_true, Bool.and_eq_true] at h1 h2 ⊢
    by_cases c : k = b
    · subst c
      have a : wsh M k i k = true := h1.elim id (·.1)
      have d : wsh M k k j = true := h2.elim id (·.2)
      exact .inr ⟨a, d⟩
    · have hk' : k < b := by omega
      rcases h1 with h1 | ⟨h1, h3⟩
      · rcases h2 with h2 | ⟨h2, h4⟩
        · exact .inl (wsh_by M b k i j hk' h1 h2)
        · exact .inr ⟨wsh_by M b k i b hk' h1 h2, h4⟩
      · rcases h2 with h2 | ⟨h2, h4⟩
        · exact .inr ⟨h1, wsh_by M b k b j hk' h3 h2⟩
        · exact .inr ⟨h1, h4⟩
theorem wlk_wsh {E : Nat → Nat → Prop} {M : Nat → Nat → Bool} {b : Nat} (h : ∀ i j, E i j → M i j = true) (hb : ∀ i j, E i j → j < b) {i j : Nat} (hw : Wlk E i j) : wsh M b i j = true := by
  induction hw with
  | one h1 => exact wsh_base M _ _ (h _ _ h1) b
  | cons h1 _ ih => exact wsh_by M b _ _ _ (hb _ _ h1) (wsh_base M _ _ (h _ _ h1) b) ih
/-- Does an event come of one of its own type, by the matrix? -/
def edl (M : Nat → Nat → Bool) : Bool := (List.range 6).any fun t => wsh M 6 t t
theorem edl_eq {ts : List Tp} {rs : List Rl} {M : Nat → Nat → Bool} (hd : Dst ts) (hr : ∀ x, x ∈ rs → Rok ts x) (hl : ts.length ≤ 6) (hM : ∀ i j, M i j = true ↔ Edg ts rs i j) : edl M = ts.any fun t => cmo rs t.n rs.length t.n := by
  have hlt : ∀ i j, Edg ts rs i j → i < ts.length ∧ j < ts.length := fun i j h => by
    obtain ⟨x, hx, he, ⟨p, hp, h1⟩, h2⟩ := h
    obtain ⟨a, ha, e1⟩ := (hr x hx).1 p hp
    obtain ⟨b, hb, e2⟩ := (hr x hx).2 he
    omega
  have hwl : ∀ i j, Wlk (Edg ts rs) i j → i < ts.length := fun i j h => by cases h with
    | one h => exact (hlt _ _ h).1
    | cons h _ => exact (hlt _ _ h).1
  rw [Bool.eq_iff_iff]
  unfold edl
  rw [List.any_eq_true, List.any_eq_true]
  constructor
  · rintro ⟨t, _, h⟩
    have hw := wsh_wlk (E := Edg ts rs) (fun i j c => .one ((hM i j).1 c)) 6 t t h
    have ht := hwl t t hw
    obtain ⟨n, hn⟩ := wlk_cmo hw ht hr ht
    exact ⟨ts[t], List.getElem_mem ht, cmo_enough rs _ _ n hn⟩
  · rintro ⟨t, ht, h⟩
    obtain ⟨i, hi, rfl⟩ := List.getElem_of_mem ht
    refine ⟨i, List.mem_range.2 (by omega), ?_⟩
    exact wlk_wsh (E := Edg ts rs) (fun i j c => (hM i j).2 c) (fun i j c => by have := hlt i j c; omega) (cmo_wlk hd hr hi rs.length i hi h)
/-! Rules that may be. -/
theorem wfs_known {ts : List Tp} : ∀ (l done : List Pt), wfs 0 ts done l = 0 → ∀ p, p ∈ l → ∃ i, ∃ _ : i < ts.length, tyq ts p.ty = (i : Int)
  | [], done, _, p, hp => by cases hp
  | y :: r, done, h, p, hp => by
    rw [wfs] at h
    split at h
    · rename_i c; exact absurd h c
    · rename_i c
      rcases List.mem_cons.1 hp with rfl | hp
      · exact pck_known (Classical.byContradiction c)
      · exact wfs_known r _ h p hp
theorem nfs_known {ts : List Tp} {ws : List Pt} : ∀ (l : List Pt) (ah : List ByteArray), nfs 0 ts ws ah l = 0 → ∀ p, p ∈ l → ∃ i, ∃ _ : i < ts.length, tyq ts p.ty = (i : Int)
  | [], ah, _, p, hp => by cases hp
  | y :: r, ah, h, p, hp => by
    rw [nfs] at h
    split at h
    · rename_i c; exact absurd h c
    · rename_i c
      rcases List.mem_cons.1 hp with rfl | hp
      · exact pck_known (Classical.byContradiction c)
      · exact nfs_known r _ h p hp
theorem mfs_known {ts : List Tp} {ws : List Pt} : ∀ (l : List Mn) (ah : List ByteArray), mfs 0 ts ws ah l = 0 → ∀ m, m ∈ l → ∃ i, ∃ _ : i < ts.length, tyq ts m.p.ty = (i : Int)
  | [], ah, _, p, hp => by cases hp
  | y :: r, ah, h, p, hp => by
    rw [mfs] at h
    split at h
    · rename_i c; exact absurd h c
    · rename_i c
      rcases List.mem_cons.1 hp with rfl | hp
      · have h0 : mck ts ws ah p = 0 := Classical.byContradiction c
        unfold mck at h0
        split at h0
        · omega
        · split at h0
          · rename_i d; exact absurd h0 d
          · rename_i d; exact pck_known (Classical.byContradiction d)
      · exact mfs_known r _ h p hp
end Go.Proofs.YthndlfdbmljkhaaGreatDoor.Chk
