/-
  What comes of itself: ways by types, closed one type after the other, are ways by rules. Rules, one by one, by the program.
-/
import Derived.Test.YtnlmknbhppdliaaGreatDoorCe
import Derived.Test.YtnlmknbhppdliaaGreatDoorDo
set_option maxHeartbeats 64000000
namespace Go.Proofs.YtnlmknbhppdliaaGreatDoor.Chk
open Go.ChangeShapes Go.WideShapes Go.ChangeAt Go.RowKit Go.Maps
set_option linter.unusedVariables false
set_option linter.unusedSimpArgs false
set_option maxRecDepth 20000
/-! Ways of rules: as many steps as there are rules are enough. -/
def gdr (rs : List Rl) (ot : ByteArray) : Nat → Rl → Bool
  | 0, _ => false
  | n + 1, x => !(emp x.e.ty) && (seq x.e.ty ot || cmo rs ot n x.e.ty)
theorem zBT (rs : List Rl) (ot : ByteArray) (n : Nat) (nm : ByteArray) : cmo rs ot n nm = rs.any fun x => spk x.w x.t x.m nm && gdr rs ot n x := by
 cases n with
 | zero => rw [cmo]; symm; rw [List.any_eq_false]; intro x _; simp [gdr]
 | succ n =>
  rw [cmo]
  congr 1
  funext x
  rw [gdr]
  cases emp x.e.ty <;> cases spk x.w x.t x.m nm <;> simp
theorem gdr_step {rs : List Rl} {ot : ByteArray} {a b : Nat} (h : ∀ x, x ∈ rs → gdr rs ot a x = gdr rs ot b x) (x : Rl) : gdr rs ot (a + 1) x = gdr rs ot (b + 1) x := by
 rw [gdr, gdr, zBT, zBT]
 have e : (rs.any fun y => spk y.w y.t y.m x.e.ty && gdr rs ot a y) = (rs.any fun y => spk y.w y.t y.m x.e.ty && gdr rs ot b y) := by
  rw [Bool.eq_iff_iff, List.any_eq_true, List.any_eq_true]
  constructor
  . rintro ⟨y, hy, h1⟩; exact ⟨y, hy, by rw [← h y hy]; exact h1⟩
  . rintro ⟨y, hy, h1⟩; exact ⟨y, hy, by rw [h y hy]; exact h1⟩
 rw [e]
theorem zB5 (rs : List Rl) (ot : ByteArray) : ∀ (n : Nat) (x : Rl), gdr rs ot n x = true → gdr rs ot (n + 1) x = true
 | 0, x, h => by simp [gdr] at h
 | n + 1, x, h => by
  rw [gdr] at h ⊢
  rw [Bool.and_eq_true, Bool.or_eq_true] at h ⊢
  refine ⟨h.1, h.2.imp id fun c => ?_⟩
  rw [zBT, List.any_eq_true] at c ⊢
  obtain ⟨y, hy, h1⟩ := c
  rw [Bool.and_eq_true] at h1
  exact ⟨y, hy, by rw [Bool.and_eq_true]; exact ⟨h1.1, zB5 rs ot n y h1.2⟩⟩
theorem gdr_le {rs : List Rl} {ot : ByteArray} {a b : Nat} (h : a ≤ b) (x : Rl) (hx : gdr rs ot a x = true) : gdr rs ot b x = true := by
 induction b with
 | zero => rw [show a = 0 by omega] at hx; exact hx
 | succ b ih =>
  by_cases c : a ≤ b
  . exact zB5 rs ot b x (ih c)
  . obtain rfl : a = b + 1 := by omega
    exact hx
theorem zEX {rs : List Rl} {ot : ByteArray} {a : Nat} (h : ∀ x, x ∈ rs → gdr rs ot a x = gdr rs ot (a + 1) x) : ∀ (d : Nat) (x : Rl), x ∈ rs → gdr rs ot a x = gdr rs ot (a + d) x
 | 0, x, hx => rfl
 | d + 1, x, hx => by
  have ih := zEX h d
  rw [h x hx]
  exact gdr_step ih x
theorem zD3 {α : Type} {p q : α → Bool} : ∀ (l : List α), (∀ x, p x = true → q x = true) → (∃ x, x ∈ l ∧ q x = true ∧ p x = false) → l.countP p < l.countP q
 | [], _, ⟨x, hx, _⟩ => by cases hx
 | y :: r, h, ⟨x, hx, h1, h2⟩ => by
  have hle : r.countP p ≤ r.countP q := List.countP_mono_left fun z _ hz => h z hz
  rw [List.countP_cons, List.countP_cons]
  rcases List.mem_cons.1 hx with rfl | hx
  . rw [if_pos h1, if_neg (by rw [h2]; decide)]; omega
  . have := zD3 r h ⟨x, hx, h1, h2⟩
    by_cases c : p y = true
    . rw [if_pos c, if_pos (h y c)]; omega
    . rw [if_neg c]; split <;> omega
theorem zFO (rs : List Rl) (ot : ByteArray) : ∃ n, n ≤ rs.length ∧ ∀ x, x ∈ rs → gdr rs ot n x = gdr rs ot (n + 1) x := by
 refine Classical.byContradiction fun hno => ?_
 have hs : ∀ n, n ≤ rs.length → ∃ x, x ∈ rs ∧ gdr rs ot (n + 1) x = true ∧ gdr rs ot n x = false := fun n hn => by
  refine Classical.byContradiction fun hc => hno ⟨n, hn, fun x hx => ?_⟩
  cases h1 : gdr rs ot n x with
  | true => exact (zB5 rs ot n x h1).symm
  | false =>
   cases h2 : gdr rs ot (n + 1) x with
   | false => rfl
   | true => exact absurd ⟨x, hx, h2, h1⟩ hc
 have hcnt : ∀ n, n ≤ rs.length + 1 → n ≤ rs.countP (gdr rs ot n) := fun n => by
  induction n with
  | zero => intro _; omega
  | succ n ih =>
   intro hn
   have h1 := ih (by omega)
   have h2 := zD3 rs (zB5 rs ot n) (hs n (by omega))
   omega
 have h1 := hcnt (rs.length + 1) (Nat.le_refl _)
 have h2 : rs.countP (gdr rs ot (rs.length + 1)) ≤ rs.length := List.countP_le_length
 omega
theorem zF8 (rs : List Rl) (ot nm : ByteArray) (n : Nat) (h : cmo rs ot n nm = true) : cmo rs ot rs.length nm = true := by
  obtain ⟨a, ha, hst⟩ := zFO rs ot
  rw [zBT, List.any_eq_true] at h ⊢
  obtain ⟨x, hx, h1⟩ := h
  rw [Bool.and_eq_true] at h1
  refine ⟨x, hx, ?_⟩
  rw [Bool.and_eq_true]
  refine ⟨h1.1, ?_⟩
  have e1 := zEX hst (rs.length - a) x hx
  have e2 := zEX hst n x hx
  rw [show a + (rs.length - a) = rs.length by omega] at e1
  rw [← e1, e2]
  exact gdr_le (by omega) x h1.2
/-! Ways by types. -/
inductive Wlk (E : Nat → Nat → Prop) : Nat → Nat → Prop
  | one {i j : Nat} (h : E i j) : Wlk E i j
  | cons {i k j : Nat} (h : E i k) (t : Wlk E k j) : Wlk E i j
theorem Wlk.trans {E : Nat → Nat → Prop} {i k j : Nat} (h : Wlk E i k) (t : Wlk E k j) : Wlk E i j := by
  induction h with
  | one h => exact .cons h t
  | cons h _ ih => exact .cons h (ih t)
def Edg (ts : List Tp) (rs : List Rl) (i j : Nat) : Prop :=
  ∃ x, x ∈ rs ∧ emp x.e.ty = false ∧ (∃ p, p ∈ x.w ++ x.t ++ x.m.map Mn.p ∧ tyq ts p.ty = (i : Int)) ∧ tyq ts x.e.ty = (j : Int)
def Rok (ts : List Tp) (x : Rl) : Prop := (∀ p, p ∈ x.w ++ x.t ++ x.m.map Mn.p → ∃ i, ∃ _ : i < ts.length, tyq ts p.ty = (i : Int)) ∧ (emp x.e.ty = false → ∃ i, ∃ _ : i < ts.length, tyq ts x.e.ty = (i : Int))
theorem seq_refl (a : ByteArray) : seq a a = true := by unfold seq; simp
theorem zFM {a b : ByteArray} (h : seq a b = true) : a.toList = b.toList := by simpa [seq] using h
theorem zB4 {a b : ByteArray} (h : seq a b = true) : seq b a = true := by have := zFM h; simp [seq, this]
theorem zEQ {a b c : ByteArray} (h : seq a b = true) (k : seq b c = true) : seq a c = true := by have := zFM h; have := zFM k; simp [seq, *]
theorem zBL (x : Rl) (n : ByteArray) : spk x.w x.t x.m n = true ↔ ∃ p, p ∈ x.w ++ x.t ++ x.m.map Mn.p ∧ seq p.ty n = true := by
 unfold spk
 rw [Bool.or_eq_true, Bool.or_eq_true, List.any_eq_true, List.any_eq_true, List.any_eq_true]
 constructor
 . rintro ((⟨p, hp, h⟩ | ⟨p, hp, h⟩) | ⟨m, hm, h⟩)
   . exact ⟨p, by simp [hp], h⟩
   . exact ⟨p, by simp [hp], h⟩
   . exact ⟨m.p, by simp; exact .inr (.inr ⟨m, hm, rfl⟩), h⟩
 . rintro ⟨p, hp, h⟩
   rw [List.mem_append, List.mem_append] at hp
   rcases hp with (hp | hp) | hp
   . exact .inl (.inl ⟨p, hp, h⟩)
   . exact .inl (.inr ⟨p, hp, h⟩)
   . obtain ⟨m, hm, rfl⟩ := List.mem_map.1 hp
     exact .inr ⟨m, hm, h⟩
theorem zBQ {ts : List Tp} {n : ByteArray} {i : Nat} (hi : i < ts.length) (h : tyq ts n = (i : Int)) : seq ts[i].n n = true := by
 rcases zA2 (q := fun t : Tp => seq t.n n) ts 0 with c | ⟨j, hj, c, hq⟩
 . have c0 : tyq ts n = -1 := c
   omega
 . have c0 : tyq ts n = (j : Int) := by show ixq _ _ _ = _; rw [c]; simp
   obtain rfl : i = j := by omega
   exact hq
theorem zEM {α : Type} {q r : α → Bool} (h : ∀ x, q x = r x) : ∀ (l : List α) (n : Nat), ixq q l n = ixq r l n
  | [], _ => rfl
  | x :: l, n => by rw [ixq, ixq, h x, zEM h l (n + 1)]
theorem zGX {a b : ByteArray} (h : seq a b = true) (c : ByteArray) : seq c a = seq c b := by
  have := zFM h
  simp [seq, this]
theorem zBR {ts : List Tp} {a b : ByteArray} (h : seq a b = true) : tyq ts a = tyq ts b := zEM (q := fun t : Tp => seq t.n a) (r := fun t : Tp => seq t.n b) (fun t => zGX h t.n) ts 0
def Dst (ts : List Tp) : Prop := ∀ i (hi : i < ts.length), tyq ts ts[i].n = (i : Int)
theorem zG6 : ∀ (rest done : List Tp), tks done rest = 0 → ∀ i (hi : i < rest.length), tyq (done ++ rest.take i) rest[i].n < 0
 | [], done, _, i, hi => by simp at hi
 | t :: r, done, h, i, hi => by
  rw [tks] at h
  split at h
  . rename_i c; exact absurd h c
  . split at h
    . omega
    . split at h
      . omega
      . split at h
        . omega
        . rename_i c
          cases i with
          | zero => simpa using c
          | succ i =>
           have := zG6 r (done ++ [t]) h i (by simpa using hi)
           simpa using this
theorem zFJ {α : Type} {q : α → Bool} : ∀ (l r : List α) (n : Nat), ixq q l n < 0 → ixq q (l ++ r) n = ixq q r (n + l.length)
 | [], r, n, _ => by simp
 | y :: l, r, n, h => by
  rw [ixq] at h
  by_cases c : q y = true
  . rw [if_pos c] at h; omega
  . rw [if_neg c] at h
    rw [List.cons_append, ixq, if_neg c, zFJ l r (n + 1) h]
    congr 1
    simp; omega
theorem dst_of {ts : List Tp} (h : tks [] ts = 0) : Dst ts := fun i hi => by
  have h1 := zG6 ts [] h i hi
  rw [List.nil_append] at h1
  have e : ts = ts.take i ++ ts.drop i := (List.take_append_drop i ts).symm
  have e2 : ts.drop i = ts[i] :: ts.drop (i + 1) := List.drop_eq_getElem_cons hi
  have h2 : tyq ts ts[i].n = ixq (fun t : Tp => seq t.n ts[i].n) (ts.take i ++ ts.drop i) 0 := by rw [List.take_append_drop]; rfl
  rw [h2, zFJ _ _ _ h1, e2, ixq, if_pos (seq_refl _)]
  simp
  omega
theorem wlk_cmo {ts : List Tp} {rs : List Rl} {i j : Nat} (h : Wlk (Edg ts rs) i j) (hj : j < ts.length) (hr : ∀ x, x ∈ rs → Rok ts x) : ∀ (_ : i < ts.length), ∃ n, cmo rs ts[j].n n ts[i].n = true := by
 induction h with
 | @one i j h =>
  intro hi
  obtain ⟨x, hx, he, ⟨p, hp, h1⟩, h2⟩ := h
  refine ⟨1, ?_⟩
  rw [cmo, List.any_eq_true]
  refine ⟨x, hx, ?_⟩
  have a1 : spk x.w x.t x.m ts[i].n = true := (zBL x _).2 ⟨p, hp, zB4 (zBQ hi h1)⟩
  have a2 : seq x.e.ty ts[j].n = true := zB4 (zBQ hj h2)
  simp [he, a1, a2]
 | @cons i k j h _ ih =>
  intro hi
  obtain ⟨x, hx, he, ⟨p, hp, h1⟩, h2⟩ := h
  obtain ⟨k', hk', h3⟩ := (hr x hx).2 he
  obtain rfl : k = k' := by omega
  obtain ⟨n, hn⟩ := ih hj hk'
  refine ⟨n + 1, ?_⟩
  rw [cmo, List.any_eq_true]
  refine ⟨x, hx, ?_⟩
  have a1 : spk x.w x.t x.m ts[i].n = true := (zBL x _).2 ⟨p, hp, zB4 (zBQ hi h1)⟩
  have a2 : cmo rs ts[j].n n x.e.ty = true := by
   rw [zBT, List.any_eq_true] at hn ⊢
   obtain ⟨y, hy, h4⟩ := hn
   rw [Bool.and_eq_true] at h4
   refine ⟨y, hy, ?_⟩
   rw [Bool.and_eq_true]
   refine ⟨?_, h4.2⟩
   obtain ⟨p2, hp2, h5⟩ := (zBL y _).1 h4.1
   exact (zBL y _).2 ⟨p2, hp2, zEQ h5 (zBQ hk' h2)⟩
  simp [he, a1, a2]
theorem zGT {ts : List Tp} {rs : List Rl} (hd : Dst ts) (hr : ∀ x, x ∈ rs → Rok ts x) {j : Nat} (hj : j < ts.length) : ∀ (n i : Nat) (hi : i < ts.length), cmo rs ts[j].n n ts[i].n = true → Wlk (Edg ts rs) i j
 | 0, i, hi, h => by rw [cmo] at h; cases h
 | n + 1, i, hi, h => by
  rw [cmo, List.any_eq_true] at h
  obtain ⟨x, hx, h⟩ := h
  rw [Bool.and_eq_true, Bool.and_eq_true, Bool.or_eq_true] at h
  obtain ⟨h0, h1, h2⟩ := h
  have he : emp x.e.ty = false := by simpa using h0
  obtain ⟨k, hk, h3⟩ := (hr x hx).2 he
  obtain ⟨p, hp, h4⟩ := (zBL x _).1 h1
  have hed : Edg ts rs i k := ⟨x, hx, he, ⟨p, hp, by rw [zBR h4]; exact hd i hi⟩, h3⟩
  rcases h2 with h2 | h2
  . have : tyq ts x.e.ty = (j : Int) := by rw [zBR h2]; exact hd j hj
    obtain rfl : k = j := by omega
    exact .one hed
  . refine .cons hed (zGT hd hr hj n k hk ?_)
    rw [zBT, List.any_eq_true] at h2 ⊢
    obtain ⟨y, hy, h5⟩ := h2
    rw [Bool.and_eq_true] at h5
    refine ⟨y, hy, ?_⟩
    rw [Bool.and_eq_true]
    refine ⟨?_, h5.2⟩
    obtain ⟨p2, hp2, h6⟩ := (zBL y _).1 h5.1
    exact (zBL y _).2 ⟨p2, hp2, zEQ h6 (zB4 (zBQ hk h3))⟩
/-! The matrix. -/
def byy (M : Nat → Nat → Bool) (b : Nat) : Nat → Nat → Bool := fun i j => M i j || (M i b && M b j)
def wsh (M : Nat → Nat → Bool) : Nat → Nat → Nat → Bool
  | 0 => M
  | b + 1 => byy (wsh M b) b
theorem zC1 {E : Nat → Nat → Prop} {M : Nat → Nat → Bool} (h : ∀ i j, M i j = true → Wlk E i j) : ∀ (b i j : Nat), wsh M b i j = true → Wlk E i j
 | 0, i, j, c => h i j c
 | b + 1, i, j, c => by
  rw [wsh, byy, Bool.or_eq_true, Bool.and_eq_true] at c
  rcases c with c | ⟨c, d⟩
  . exact zC1 h b i j c
  . exact (zC1 h b i b c).trans (zC1 h b b j d)
theorem wsh_grow (M : Nat → Nat → Bool) (b i j : Nat) (h : wsh M b i j = true) : wsh M (b + 1) i j = true := by rw [wsh, byy, h]; rfl
theorem zDQ (M : Nat → Nat → Bool) (i j : Nat) (h : M i j = true) : ∀ b, wsh M b i j = true
  | 0 => h
  | b + 1 => wsh_grow M b i j (zDQ M i j h b)
theorem zE4 (M : Nat → Nat → Bool) : ∀ (b k i j : Nat), k < b → wsh M b i k = true → wsh M b k j = true → wsh M b i j = true
 | 0, k, i, j, hk, _, _ => by omega
 | b + 1, k, i, j, hk, h1, h2 => by
  rw [wsh, byy, Bool.or_eq_true, Bool.and_eq_true] at h1 h2 ⊢
  by_cases c : k = b
  . subst c
    have a : wsh M k i k = true := h1.elim id (·.1)
    have d : wsh M k k j = true := h2.elim id (·.2)
    exact .inr ⟨a, d⟩
  . have hk' : k < b := by omega
    rcases h1 with h1 | ⟨h1, h3⟩
    . rcases h2 with h2 | ⟨h2, h4⟩
      . exact .inl (zE4 M b k i j hk' h1 h2)
      . exact .inr ⟨zE4 M b k i b hk' h1 h2, h4⟩
    . rcases h2 with h2 | ⟨h2, h4⟩
      . exact .inr ⟨h1, zE4 M b k b j hk' h3 h2⟩
      . exact .inr ⟨h1, h4⟩
theorem wlk_wsh {E : Nat → Nat → Prop} {M : Nat → Nat → Bool} {b : Nat} (h : ∀ i j, E i j → M i j = true) (hb : ∀ i j, E i j → j < b) {i j : Nat} (hw : Wlk E i j) : wsh M b i j = true := by
  induction hw with
  | one h1 => exact zDQ M _ _ (h _ _ h1) b
  | cons h1 _ ih => exact zE4 M b _ _ _ (hb _ _ h1) (zDQ M _ _ (h _ _ h1) b) ih
def edl (M : Nat → Nat → Bool) : Bool := (List.range 6).any fun t => wsh M 6 t t
theorem edl_eq {ts : List Tp} {rs : List Rl} {M : Nat → Nat → Bool} (hd : Dst ts) (hr : ∀ x, x ∈ rs → Rok ts x) (hl : ts.length ≤ 6) (hM : ∀ i j, M i j = true ↔ Edg ts rs i j) : edl M = ts.any fun t => cmo rs t.n rs.length t.n := by
 have hlt : ∀ i j, Edg ts rs i j → i < ts.length ∧ j < ts.length := fun i j h => by
   obtain ⟨x, hx, he, ⟨p, hp, h1⟩, h2⟩ := h
   obtain ⟨a, ha, e1⟩ := (hr x hx).1 p hp
   obtain ⟨b, hb, e2⟩ := (hr x hx).2 he
   omega
 have hwl : ∀ i j, Wlk (Edg ts rs) i j → i < ts.length := fun i j h => by cases h with
   | one h => exact (hlt _ _ h).1
   | cons h _ => exact (hlt _ _ h).1
 rw [Bool.eq_iff_iff]
 unfold edl
 rw [List.any_eq_true, List.any_eq_true]
 constructor
 . rintro ⟨t, _, h⟩
   have hw := zC1 (E := Edg ts rs) (fun i j c => .one ((hM i j).1 c)) 6 t t h
   have ht := hwl t t hw
   obtain ⟨n, hn⟩ := wlk_cmo hw ht hr ht
   exact ⟨ts[t], List.getElem_mem ht, zF8 rs _ _ n hn⟩
 . rintro ⟨t, ht, h⟩
   obtain ⟨i, hi, rfl⟩ := List.getElem_of_mem ht
   refine ⟨i, List.mem_range.2 (by omega), ?_⟩
   exact wlk_wsh (E := Edg ts rs) (fun i j c => (hM i j).2 c) (fun i j c => by have := hlt i j c; omega) (zGT hd hr hi rs.length i hi h)
/-! Rules that may be. -/
theorem zD2 {ts : List Tp} : ∀ (l done : List Pt), wfs 0 ts done l = 0 → ∀ p, p ∈ l → ∃ i, ∃ _ : i < ts.length, tyq ts p.ty = (i : Int)
 | [], done, _, p, hp => by cases hp
 | y :: r, done, h, p, hp => by
  rw [wfs] at h
  split at h
  . rename_i c; exact absurd h c
  . rename_i c
    rcases List.mem_cons.1 hp with rfl | hp
    . exact zA8 (Classical.byContradiction c)
    . exact zD2 r _ h p hp
theorem zEE {ts : List Tp} {ws : List Pt} : ∀ (l : List Pt) (ah : List ByteArray), nfs 0 ts ws ah l = 0 → ∀ p, p ∈ l → ∃ i, ∃ _ : i < ts.length, tyq ts p.ty = (i : Int)
 | [], ah, _, p, hp => by cases hp
 | y :: r, ah, h, p, hp => by
  rw [nfs] at h
  split at h
  . rename_i c; exact absurd h c
  . rename_i c
    rcases List.mem_cons.1 hp with rfl | hp
    . exact zA8 (Classical.byContradiction c)
    . exact zEE r _ h p hp
theorem zEH {ts : List Tp} {ws : List Pt} : ∀ (l : List Mn) (ah : List ByteArray), mfs 0 ts ws ah l = 0 → ∀ m, m ∈ l → ∃ i, ∃ _ : i < ts.length, tyq ts m.p.ty = (i : Int)
 | [], ah, _, p, hp => by cases hp
 | y :: r, ah, h, p, hp => by
  rw [mfs] at h
  split at h
  . rename_i c; exact absurd h c
  . rename_i c
    rcases List.mem_cons.1 hp with rfl | hp
    . have h0 : mck ts ws ah p = 0 := Classical.byContradiction c
      unfold mck at h0
      split at h0
      . omega
      . split at h0
        . rename_i d; exact absurd h0 d
        . rename_i d; exact zA8 (Classical.byContradiction d)
    . exact zEH r _ h p hp
structure Rsc (w : World) (ts : List Tp) (tv : Value) (tb cb mb : Nat) (L : List ByteArray) (n : Nat) : Prop where
  cc : w.cell? ⟨cb, 0, none⟩ = some (.map (some mb))
  nm : Nm w mb L n
  tk : Tab w 0 kpl
  tr : Tab w 1 rll
  tc : w.cell? ⟨tb, 0, none⟩ = some tv
  rt : Rd w (.row 59 2 (ts.map encY)) tv
theorem Rsc.later {w w' : World} {ts : List Tp} {tv : Value} {tb cb mb n : Nat} {L : List ByteArray} (h : Rsc w ts tv tb cb mb L n) (hb : Below w.heap.size w w') : Rsc w' ts tv tb cb mb L n :=
  ⟨(hb.cell (p := ⟨cb, 0, none⟩) (World.block_lt_of_cell? _ _ h.cc)).trans h.cc, h.nm.later hb, zAF h.tk hb, zAF h.tr hb, (hb.cell (p := ⟨tb, 0, none⟩) (World.block_lt_of_cell? _ _ h.tc)).trans h.tc, h.rt.later hb⟩
theorem Rsc.fr {w w' : World} {ts : List Tp} {tv : Value} {tb cb mb n n' : Nat} {L L' : List ByteArray} (h : Rsc w ts tv tb cb mb L n) (hf : Fr (fun i => i = mb) w w') (hk : Nm w' mb L' n') : Rsc w' ts tv tb cb mb L' n' :=
  ⟨zA1 h.nm.isMap hf h.cc, hk, zCY h.nm.isMap hf h.tk (by decide), zCY h.nm.isMap hf h.tr (by decide), zA1 h.nm.isMap hf h.tc, h.rt.fr h.nm.isMap hf⟩
def rk1 (ts : List Tp) (done : List Rl) (x : Rl) : Int := if rck ts x ≠ 0 then rck ts x else tkn (done.map Rl.n) x.n
theorem zFF (ts : List Tp) (done : List Rl) (x : Rl) (r : List Rl) : rks (rck ts) done (x :: r) = if rk1 ts done x ≠ 0 then rk1 ts done x else rks (rck ts) (done ++ [x]) r := by
 rw [rks]
 have e : (done.map Rl.n).any (fun r => seq r x.n) = done.any (fun d => seq d.n x.n) := by rw [List.any_map]; rfl
 unfold rk1 tkn
 rw [e]
 by_cases h1 : rck ts x = 0
 . by_cases h4 : done.any (fun d => seq d.n x.n) = true
   . have e : (if rck ts x ≠ 0 then rck ts x else if done.any (fun d => seq d.n x.n) = true then 7 else 0) = 7 := by rw [if_neg (fun c => c h1), if_pos h4]
     rw [e, if_neg (fun c => c h1), if_pos h4]
     rfl
   . have e : (if rck ts x ≠ 0 then rck ts x else if done.any (fun d => seq d.n x.n) = true then 7 else 0) = 0 := by rw [if_neg (fun c => c h1), if_neg h4]
     rw [e, if_neg (fun c => c h1), if_neg h4]
     rfl
 . simp [h1]
theorem rck_size {ts : List Tp} {x : Rl} (h : rck ts x = 0) : x.n.size ≤ maxLen := by
  unfold rck at h
  split at h
  . rename_i c; exact absurd h c
  . rename_i c; exact zFD (Classical.byContradiction c)
theorem zCP (ts : List Tp) (hty : ∀ i (hi : i < ts.length), tyk ts[i].n ts[i].f = 0) (done : List Rl) (r : Rl) (hzr : Szr r) (tv u1 u2 u3 u4 u5 : Value) (tb cb mb n : Nat) (w : World) (hs : Rsc w ts tv tb cb mb (done.map Rl.n) n) (h1 : Rd w (.row 48 18 (r.w.map encP)) u1) (h2 : Rd w (.row 48 18 (r.t.map encP)) u2) (h3 : Rd w (.row 78 20 (r.m.map encM)) u3) (h4 : Rd w (.row 66 3 (r.k.map encK)) u4) (h5 : Rd w (.row 44 6 (r.e.v.map encO)) u5) (hn : n ≤ 100) :
   Calls Tryz.prog 59 #[.agg #[.string r.n, u1, u2, u3, u4, .string r.e.ty, u5], .pointer (some ⟨tb, 0, none⟩), .pointer (some ⟨cb, 0, none⟩)] w fun e w' => e = .returned (.int .i64 (rk1 ts done r)) ∧ Fr (fun i => i = mb) w w' ∧ (rk1 ts done r = 0 → Nm w' mb ((done ++ [r]).map Rl.n) (n + 1)) := by
 have HCR := hid (fun W (hW : Below w.heap.size w W) => zDZ ts hty r hzr tv u1 u2 u3 u4 u5 W (hs.rt.later hW) (zAF hs.tk hW) (zAF hs.tr hW) (h1.later hW) (h2.later hW) (h3.later hW) (h4.later hW) (h5.later hW))
 have HTA := hid (fun W (hW : Below w.heap.size w W) (hz : rck ts r = 0) => zFK mb (done.map Rl.n) n r.n (rck_size hz) hn W (hs.nm.later hW))
 have HCC := hid (fun W (hW : Below w.heap.size w W) => (hs.later hW).cc)
 have HTC := hid (fun W (hW : Below w.heap.size w W) => (hs.later hW).tc)
 have hmp : (done ++ [r]).map Rl.n = done.map Rl.n ++ [r.n] := by rw [List.map_append]; rfl
 rw [hmp]
 unfold rk1
 obtain ⟨E0, hE0⟩ : ∃ E, rck ts r = E := ⟨_, rfl⟩
 rw [hE0] at HCR HTA
 rw [hE0]
 obtain ⟨E3, hE3⟩ : ∃ E, tkn (done.map Rl.n) r.n = E := ⟨_, rfl⟩
 rw [hE3] at HTA
 rw [hE3]
 obtain ⟨tp, tn, tc, rfl⟩ := zAB hs.rt
 obtain ⟨q1, l1, j1, rfl⟩ := zAB h1
 obtain ⟨q2, l2, j2, rfl⟩ := zAB h2
 obtain ⟨q3, l3, j3, rfl⟩ := zAB h3
 obtain ⟨q4, l4, j4, rfl⟩ := zAB h4
 obtain ⟨q5, l5, j5, rfl⟩ := zAB h5
 clear hs h1 h2 h3 h4 h5 hn hmp hE0 hE3 hzr
 obtain ⟨rn, ws, ns, ms, ks, ⟨ety, vs⟩⟩ := r
 simp only at HCR HTA ⊢
 have HT : Hid (BlkT w (w.alloc (.cells [.string rn, .slice q1 l1 j1, .slice q2 l2 j2, .slice q3 l3 j3, .slice q4 l4 j4, .string ety, .slice q5 l5 j5].toArray 56)) [.string rn, .slice q1 l1 j1, .slice q2 l2 j2, .slice q3 l3 j3, .slice q4 l4 j4, .string ety, .slice q5 l5 j5] 56) := BlkT.start w _ _
 have XR : Hid ((w.alloc (.cells [.string rn, .slice q1 l1 j1, .slice q2 l2 j2, .slice q3 l3 j3, .slice q4 l4 j4, .string ety, .slice q5 l5 j5].toArray 56)).rangeAt w.heap.size 0 [.string rn, .slice q1 l1 j1, .slice q2 l2 j2, .slice q3 l3 j3, .slice q4 l4 j4, .string ety, .slice q5 l5 j5]) := zAE HT.out.b1
 have c5 : (w.alloc (.cells #[.string rn, .slice q1 l1 j1, .slice q2 l2 j2, .slice q3 l3 j3, .slice q4 l4 j4, .string ety, .slice q5 l5 j5] 56)).cell? ⟨tb, 0, none⟩ = some (.slice tp tn tc) := HTC.out _ HT.out.bel
 by_cases hz : E0 = 0
 . have HZ := hid hz
   rw [if_neg (fun c => c hz)]
   subst hz
   go_enter Tryz.func59, Tryz.ntmps59
   go_wp2_with ((with_reducible refine gLq ?_); refine wpList_load_mid (by rfl) 56 _ (by rfl) w.heap.size 0 (by rfl) [.string rn, .slice q1 l1 j1, .slice q2 l2 j2, .slice q3 l3 j3, .slice q4 l4 j4, .string ety, .slice q5 l5 j5] _ XR.out Tryz.underlying56 rfl (by kernel_rfl) ?_)
   refine (HCR.out _ HT.out.bel).mono ?_
   rintro e w1 ⟨rfl, hb1⟩
   have HT1 : Hid _ := HT.out.next hb1
   clear hb1
   clear XR c5
   have c0 : w1.cell? ⟨w.heap.size, 0, none⟩ = some (.string rn) := HT1.out.c 0
   have c3 : w1.cell? ⟨cb, 0, none⟩ = some (.map (some mb)) := HCC.out _ HT1.out.bel
   go_wp2_with fail
   refine (HTA.out _ HT1.out.bel HZ.out).mono ?_
   rintro e w3 ⟨rfl, hf3, hk3⟩
   have HF3 := hid ((Fr.of_below HT1.out.bel).trans hf3)
   have HK3 := hid hk3
   clear hf3 hk3
   go_wp2_with fail
   go_ret
   exact ⟨rfl, HF3.out, HK3.out⟩
 . rw [if_pos hz]
   have d9 : (E0 != 0) = true := by simpa using hz
   have HZ := hid hz
   clear hz
   go_enter Tryz.func59, Tryz.ntmps59
   go_wp2_with ((with_reducible refine gLq ?_); refine wpList_load_mid (by rfl) 56 _ (by rfl) w.heap.size 0 (by rfl) [.string rn, .slice q1 l1 j1, .slice q2 l2 j2, .slice q3 l3 j3, .slice q4 l4 j4, .string ety, .slice q5 l5 j5] _ XR.out Tryz.underlying56 rfl (by kernel_rfl) ?_)
   refine (HCR.out _ HT.out.bel).mono ?_
   rintro e w1 ⟨rfl, hb1⟩
   have HT1 : Hid _ := HT.out.next hb1
   clear hb1
   go_wp2_with fail
   go_ret
   exact ⟨rfl, Fr.of_below HT1.out.bel, fun c => absurd c HZ.out⟩
theorem zD0 (ts : List Tp) (hty : ∀ i (hi : i < ts.length), tyk ts[i].n ts[i].f = 0) (rs : List Rl) (hzz : ∀ r, r ∈ rs → Szr r) (tv : Value) (tb cb mb n0 : Nat) (lv : Value) (w : World) (hs : Rsc w ts tv tb cb mb [] n0) (hR : Rd w (.row 56 7 (rs.map encR)) lv) (hn : n0 + rs.length ≤ 100) :
  Calls Tryz.prog 58 #[lv, .func (.func 59) #[] #[.pointer (some ⟨tb, 0, none⟩), .pointer (some ⟨cb, 0, none⟩)]] w fun e w' => e = .returned (.int .i64 (rks (rck ts) [] rs)) ∧ Fr (fun i => i = mb) w w' ∧ (rks (rck ts) [] rs = 0 → Rsc w' ts tv tb cb mb ((rs.take (rs.length)).map Rl.n) (n0 + (rs.length))) := by
 have HS := hid hs
 have HL := hid hR
 have HNN := hid hn
 obtain ⟨p, cap, rfl, hmx, _⟩ := zAG lenR hR
 obtain ⟨n, hnl⟩ : ∃ n, rs.length = n := ⟨_, rfl⟩
 have HN := hid hnl
 obtain ⟨R, hRR⟩ : ∃ R, rks (rck ts) [] rs = R := ⟨_, rfl⟩
 have HR := hid hRR
 rw [hRR]
 rw [hnl] at hmx HL ⊢
 clear hR hs hn hnl hRR
 go_enter Tryz.func58, Tryz.ntmps58
 go_wp2_with fail
 go_loopg [10] (n + 1) (fun gg i wr => ∃ k : Nat, k ≤ n ∧ gg = n + 1 - k ∧ i = .int .i64 (k : Nat) ∧ rks (rck ts) (rs.take k) (rs.drop k) = R ∧ Fr (fun i => i = mb) w wr ∧ Rsc wr ts tv tb cb mb ((rs.take (k)).map Rl.n) (n0 + (k)))
 case atStart => exact ⟨0, by omega, by omega, rfl, by simpa using HR.out, Fr.refl _ _, by simpa using HS.out⟩
 case round =>
  obtain ⟨k, hk, rfl, rfl, hev, hF, hI⟩ := hrel
  have HF := hid hF
  have HI := hid hI
  by_cases hlt : k < n
  . have hkc : k < rs.length := by have := HN.out; omega
    obtain ⟨p', cap', e0, _, hat⟩ := zAG lenR (HL.out.fr HS.out.nm.isMap hF)
    simp only [Value.slice.injEq] at e0
    obtain ⟨rfl, hx0, rfl⟩ := e0
    obtain ⟨g, off, rfl, hrd⟩ := hat (by omega)
    obtain ⟨A, r1, o1⟩ := hrd wr (Below.refl _ _) k hkc
    obtain ⟨v1, v2, v3, v4, v5, z1, o1', o2, o3, o4, o5⟩ := rdR o1
    obtain ⟨a1, a2, a3, hu1⟩ := zAB o1'
    obtain ⟨b1, b2, b3, hu2⟩ := zAB o2
    obtain ⟨d1, d2, d3, hu3⟩ := zAB o3
    obtain ⟨f1, f2, f3, hu4⟩ := zAB o4
    obtain ⟨g1, g2, g3, hu5⟩ := zAB o5
    have hAz : A.length = 7 := o1.1.symm
    rw [List.drop_eq_getElem_cons hkc, zFF] at hev
    have htk : rs.take (k + 1) = rs.take k ++ [rs[k]] := List.take_succ_eq_append_getElem hkc
    have hcall := fun W (hW : Below wr.heap.size wr W) => zCP ts hty (rs.take k) rs[k] (hzz _ (List.getElem_mem hkc)) tv v1 v2 v3 v4 v5 tb cb mb (n0 + k) W (hI.later hW) (o1'.later hW) (o2.later hW) (o3.later hW) (o4.later hW) (o5.later hW) (by have := HNN.out; omega)
    rw [← htk] at hcall
    obtain ⟨e9, he9⟩ : ∃ e9, rk1 ts (rs.take k) rs[k] = e9 := ⟨_, rfl⟩
    rw [he9] at hcall hev
    have HCM : Hid (∀ W, Below wr.heap.size wr W → Calls Tryz.prog 59 #[.agg A.toArray, .pointer (some ⟨tb, 0, none⟩), .pointer (some ⟨cb, 0, none⟩)] W (fun e w' => e = .returned (.int .i64 e9) ∧ Fr (fun i => i = mb) W w' ∧ (e9 = 0 → Nm w' mb ((rs.take (k + 1)).map Rl.n) (n0 + k + 1)))) := fun W hW => by rw [z1]; exact hcall W hW
    have HAO : Hid (A.all (·.oneCell') = true) := by show _ = _; rw [z1, hu1, hu2, hu3, hu4, hu5]; rfl
    have ZA : Hid ((Tryz.prog.info? 56).map (·.size) = some A.length) := by show _ = _; rw [hAz]; kernel_rfl
    have HAL := hid hAz
    have X1_ := hid r1
    have HEV := hid hev
    have HTK := hid htk
    have i1 : (0 : Int) ≤ (k : Int) := by omega
    have i2 : (k : Int) < (n : Int) := by omega
    clear hF hI hat hrd r1 o1 hAz hev htk hx0 hcall he9 z1 hu1 hu2 hu3 hu4 hu5 o1' o2 o3 o4 o5
    go_wp2_with (first
      | ((with_reducible refine gLq ?_); refine wpList_load_mid (by rfl) 56 _ (by rfl) g (off + k * 7) (by rfl) A _ X1_.out Tryz.underlying56 rfl ZA.out ?_)
      | ((with_reducible refine gSq ?_); refine zA7 (by rfl) 56 _ _ (by rfl) wr.heap.size 0 _ 56 (.agg A.toArray) A (by rfl) (by rfl) (by rfl) (heap_alloc_new _ _) (by have := HAL.out; simp; omega) ZA.out HAO.out ?_; intro w1 hblk hfr; rw [zAT (by rw [HAL.out]; rfl)] at hblk; have XB : Hid (w1.rangeAt wr.heap.size 0 A) := zAE hblk; have HBW : Hid (Below wr.heap.size wr w1) := zAM hfr; clear hblk hfr)
      | ((with_reducible refine gLq ?_); refine wpList_load_mid (by rfl) 56 _ (by rfl) wr.heap.size 0 (by rfl) A _ XB.out Tryz.underlying56 rfl ZA.out ?_))
    refine (HCM.out _ HBW.out).mono ?_
    rintro e w2 ⟨rfl, hf2, hk2⟩
    have HF2 : Hid (Fr (fun i => i = mb) w w2) := HF.out.trans ((Fr.of_below HBW.out).trans hf2)
    have HK2 := hid hk2
    have HS1 := hid ((HI.out.later HBW.out))
    have HFR := hid hf2
    clear hk2 hf2
    by_cases hz : e9 = 0
    . have HE2 := HEV.out
      rw [if_neg (fun c => c hz)] at HE2
      have HE3 := hid HE2
      have HI2 := hid (show Rsc w2 ts tv tb cb mb ((rs.take (k + 1)).map Rl.n) (n0 + (k + 1)) from HS1.out.fr HFR.out (HK2.out hz))
      subst hz
      clear HE2 HK2 HS1 HFR
      go_wp2_with fail
      go_roundg (n + 1 - (k + 1))
      case rel => exact ⟨k + 1, by omega, rfl, by go_num, by rw [HTK.out]; exact HE3.out, HF2.out, HI2.out⟩
      case measure => omega
    . have HE2 : Hid (R = e9) := by have h := HEV.out; rw [if_pos hz] at h; exact h.symm
      have d9 : (e9 != 0) = true := by simpa using hz
      have HZ := hid hz
      clear hz HK2 HS1 HFR
      go_wp2_with fail
      go_ret
      exact ⟨zAD HE2.out.symm, HF2.out, fun c => absurd (HE2.out.symm.trans c) HZ.out⟩
  . obtain rfl : k = n := by omega
    have hw : rs.take k = rs := List.take_of_length_le (by have := HN.out; omega)
    have hd : rs.drop k = [] := List.drop_of_length_le (by have := HN.out; omega)
    rw [hd, rks] at hev
    have HE2 : Hid (R = 0) := hev.symm
    have HI2 := hid hI
    clear hev hd hF hI hw
    go_wp2_with fail
    go_ret
    exact ⟨zAD HE2.out.symm, HF.out, fun _ => HI2.out⟩
theorem heap_3 (w : World) (a b c : Obj) : (((w.alloc a).alloc b).alloc c).heap[w.heap.size + 2]? = some c := by
  have := heap_alloc_new ((w.alloc a).alloc b) c
  simpa using this
theorem zCL (ts : List Tp) (hty : ∀ i (hi : i < ts.length), tyk ts[i].n ts[i].f = 0) (rs : List Rl) (hzz : ∀ r, r ∈ rs → Szr r) (tv rv : Value) (w : World) (hT : Rd w (.row 59 2 (ts.map encY)) tv) (hR : Rd w (.row 56 7 (rs.map encR)) rv) (htk : Tab w 0 kpl) (htr : Tab w 1 rll) (hn : rs.length ≤ 90) :
  Calls Tryz.prog 34 #[rv, tv] w fun e w' => e = .returned (.int .i64 (rks (rck ts) [] rs)) ∧ Below w.heap.size w w' := by
 have HC := hid (fun W tb cb mb (hs : Rsc W ts tv tb cb mb [] 0) hR => zD0 ts hty rs hzz tv tb cb mb 0 rv W hs hR (by omega))
 obtain ⟨tp, tn, tc, rfl⟩ := zAB hT
 obtain ⟨rp, rn, rc, rfl⟩ := zAB hR
 have hmm := @run_makeMap Tryz.prog
 have hb0 : Below w.heap.size w (w.alloc (.cells #[.slice tp tn tc] 25)) := (Below.refl _ _).alloc (Nat.le_refl _) _
 have hb1 : Below w.heap.size w ((w.alloc (.cells #[.slice tp tn tc] 25)).alloc (.map #[] 0)) := hb0.alloc (by simp) _
 have hb2 : Below ((w.alloc (.cells #[.slice tp tn tc] 25)).alloc (.map #[] 0)).heap.size ((w.alloc (.cells #[.slice tp tn tc] 25)).alloc (.map #[] 0)) (((w.alloc (.cells #[.slice tp tn tc] 25)).alloc (.map #[] 0)).alloc (.cells #[.map (some (w.heap.size + 1))] 139)) := (Below.refl _ _).alloc (Nat.le_refl _) _
 have hb3 : Below w.heap.size w (((w.alloc (.cells #[.slice tp tn tc] 25)).alloc (.map #[] 0)).alloc (.cells #[.map (some (w.heap.size + 1))] 139)) := hb1.alloc hb1.size _
 have hnm : Nm ((w.alloc (.cells #[.slice tp tn tc] 25)).alloc (.map #[] 0)) (w.heap.size + 1) [] 0 := by have := zG3 (w.alloc (.cells #[.slice tp tn tc] 25)); simpa using this
 have ht0 : (((w.alloc (.cells #[.slice tp tn tc] 25)).alloc (.map #[] 0)).alloc (.cells #[.map (some (w.heap.size + 1))] 139)).cell? ⟨w.heap.size, 0, none⟩ = some (.slice tp tn tc) := by
  refine zAC (cs := #[.slice tp tn tc]) (T := 25) ?_ 0
  rw [Below.heap_alloc _ _ _ (by simp; omega), Below.heap_alloc _ _ _ (by simp)]
  exact heap_alloc_new _ _
 have HTS : Hid (Rsc (((w.alloc (.cells #[.slice tp tn tc] 25)).alloc (.map #[] 0)).alloc (.cells #[.map (some (w.heap.size + 1))] 139)) ts (.slice tp tn tc) w.heap.size (w.heap.size + 2) (w.heap.size + 1) [] 0) := ⟨zAC (heap_3 _ _ _ _) 0, hnm.later hb2, zAF htk hb3, zAF htr hb3, ht0, hT.later hb3⟩
 have HRD := hid (hR.later hb3)
 have HB3 := hid hb3
 clear hb0 hb1 hb2 hb3 hT htk htr hn hR hnm ht0
 go_enter Tryz.func34, Tryz.ntmps34
 go_wp2_with fail
 refine (HC.out _ _ _ _ HTS.out HRD.out).mono ?_
 rintro e w3 ⟨rfl, hf3, _⟩
 have HB4 : Hid (Below w.heap.size w w3) := zAP HB3.out hf3 (by omega)
 clear hf3
 go_wp2_with fail
 go_ret
 exact ⟨rfl, HB4.out⟩
end Go.Proofs.YtnlmknbhppdliaaGreatDoor.Chk
