/-
  What is known; a when, a not and a many, by the program. Names that are taken; types, one by one, by the program.
-/
import Derived.Test.YtnajcoikcoegoaaDoorDf
namespace Go.Proofs.YtnajcoikcoegoaaDoor.Chk
open Go.ChangeShapes Go.WideShapes Go.ChangeAt Go.RowKit Go.Maps
set_option linter.unusedVariables false
set_option linter.unusedSimpArgs false
set_option maxRecDepth 20000
def kw (ts : List Tp) (ws : List Pt) : Kns := ws.map fun p => (p.va, ((1 : Int), tyq ts p.ty))
def kn (ts : List Tp) (ns : List Pt) : Kns := ns.map fun p => (p.va, ((2 : Int), tyq ts p.ty))
def km (ts : List Tp) (ms : List Mn) : Kns := ms.map fun m => (m.p.va, ((3 : Int), tyq ts m.p.ty))
theorem seq_iff (a b : ByteArray) : seq a b = (a.data.toList == b.data.toList) := by
  unfold seq
  rw [Lib.toList_data, Lib.toList_data]
theorem lkp_none {Ks : Kns} {x : List UInt8} : lkp Ks x = none ↔ ∀ e, e ∈ Ks → (e.1.data.toList == x) = false := by
  unfold lkp
  rw [Option.map_eq_none_iff, List.find?_eq_none]
  constructor
  · intro h e he; have := h e he; simpa using this
  · intro h e he; have := h e he; simpa using this
theorem lkp_some {Ks : Kns} {x : List UInt8} {q : Int × Int} (h : lkp Ks x = some q) : ∃ e, e ∈ Ks ∧ e.2 = q := by
  unfold lkp at h
  cases hf : Ks.find? (fun p => p.1.data.toList == x) with
  | none => rw [hf] at h; cases h
  | some e => rw [hf] at h; exact ⟨e, List.mem_of_find?_eq_some hf, by simpa using h⟩
theorem Kna_of {Ks : Kns} (h : ∀ e, e ∈ Ks → e.2.1 ≠ 0) : Kna (Ks.map (·.1)) Ks := fun va => by
  refine ⟨fun q hq => ?_, ?_⟩
  · obtain ⟨e, he, rfl⟩ := lkp_some hq
    exact h e he
  · rw [lkp_none, List.any_map, List.any_eq_false]
    constructor
    · intro h1 e he
      have := h1 e he
      simp only [Function.comp, seq_iff, this]
      decide
    · intro h1 e he
      have := h1 e he
      simp only [Function.comp, seq_iff] at this
      simpa using this
theorem lkp_append (A B : Kns) (x : List UInt8) : lkp (A ++ B) x = match lkp A x with | some q => some q | none => lkp B x := by
  unfold lkp
  rw [List.find?_append]
  cases A.find? (fun p => p.1.data.toList == x) with
  | some q => rfl
  | none => rfl
theorem find_ixq {α : Type} {q : α → Bool} : ∀ (l : List α) (n k : Nat) (hk : k < l.length), ixq q l n = ((n + k : Nat) : Int) → l.find? q = some l[k]
  | x :: r, n, k, hk, h => by
    rw [ixq] at h
    by_cases c : q x = true
    · rw [if_pos c] at h
      have : k = 0 := by omega
      subst this
      simp [c]
    · rw [if_neg c] at h
      have c' : q x = false := by simpa using c
      rcases k with _ | k
      · exfalso
        rcases ixq_lt (q := q) r (n + 1) with d | ⟨j, hj, d, _⟩
        · rw [d] at h; omega
        · rw [d] at h; omega
      · rw [List.find?_cons, c']
        simp only [List.getElem_cons_succ]
        exact find_ixq r (n + 1) k (by simpa using hk) (by rw [h]; omega)
theorem Knw_of {ts : List Tp} {ws : List Pt} {B : Kns} (h : ∀ e, e ∈ B → e.2.1 ≠ 1) : Knw ts ws (kw ts ws ++ B) := by
  constructor
  · intro va hlt
    have hn : lkp (kw ts ws) va.data.toList = none := by
      rw [lkp_none]
      intro e he
      obtain ⟨p, hp, rfl⟩ := List.mem_map.1 he
      rcases ixq_lt (q := fun p : Pt => seq p.va va) ws 0 with c | ⟨j, hj, c, _⟩
      · cases hq : (p.va.data.toList == va.data.toList) with
        | false => rfl
        | true =>
          exfalso
          obtain ⟨j, hj, rfl⟩ := List.getElem_of_mem hp
          have : ∀ (l : List Pt) (n : Nat), ixq (fun p : Pt => seq p.va va) l n = -1 → ∀ x, x ∈ l → seq x.va va = false := by
            intro l
            induction l with
            | nil => intro n _ x hx; cases hx
            | cons y r ih =>
              intro n h0 x hx
              rw [ixq] at h0
              by_cases c : seq y.va va = true
              · rw [if_pos c] at h0; omega
              · rw [if_neg c] at h0
                rcases List.mem_cons.1 hx with rfl | hx
                · simpa using c
                · exact ih (n + 1) h0 x hx
          have h2 := this ws 0 c _ hp
          rw [seq_iff, hq] at h2
          cases h2
      · exfalso
        have : ptq ws va = (j : Int) := by show ixq _ _ _ = _; rw [c]; simp
        omega
    rw [lkp_append, hn]
    cases hb : lkp B va.data.toList with
    | none => decide
    | some q =>
      obtain ⟨e, he, rfl⟩ := lkp_some hb
      exact h e he
  · intro va j hj hp
    have hf := find_ixq (q := fun p : Pt => seq p.va va) ws 0 j hj (by rw [show ixq (fun p : Pt => seq p.va va) ws 0 = (j : Int) from hp]; simp)
    rw [lkp_append]
    have : lkp (kw ts ws) va.data.toList = some (1, tyq ts ws[j].ty) := by
      unfold lkp kw
      rw [List.find?_map]
      have e : ((fun p : ByteArray × (Int × Int) => p.1.data.toList == va.data.toList) ∘ fun p : Pt => (p.va, ((1 : Int), tyq ts p.ty))) = fun p : Pt => seq p.va va := by funext p; simp [seq_iff]
      rw [e, hf]
      rfl
    rw [this]
/-- What a part's check leaves. -/
def PQ (w : World) (mb : Nat) (Ks : Kns) (n : Nat) (E : Int) (e : Ending) (w' : World) : Prop :=
  e = .returned (.int .i64 E) ∧ Fr (fun i => i = mb) w w' ∧ (E = 0 → Km w' mb Ks n)
theorem PR.pq {w W w' : World} {mb : Nat} {Ks : Kns} {n : Nat} {va : ByteArray} {q : Int × Int} {E : Int} {e : Ending} (h : PR W mb Ks n va q E e w') (hb : Below w.heap.size w W) : PQ w mb (Ks ++ [(va, q)]) (n + 1) E e w' := by
  obtain ⟨h1, h2, h3⟩ := h
  refine ⟨h1, ?_, fun c => (h3 c).2⟩
  by_cases c : E = 0
  · exact (Fr.of_below hb).trans (h3 c).1
  · exact (Fr.of_below hb).trans (Fr.of_below (h2 c))
set_option maxHeartbeats 16000000 in
theorem when_any (ts : List Tp) (ws : List Pt) (ah : List ByteArray) (b mb : Nat) (Ks : Kns) (n : Nat) (hkn : Known ts ws) (hk : Knw ts ws Ks) (hka : Kna ah Ks) (hty : ∀ i (hi : i < ts.length), tyk ts[i].n ts[i].f = 0) (pt : Pt) (tv sv : Value) (w : World) (hs : Scp w ts tv b mb Ks n) (hS : Rd w (.row 33 14 pt.c.sb) sv) (hwz : Wsz pt.c) (hn : n ≤ 100) :
    Calls Tryd.prog 50 #[scV tv b mb, ptV pt.va pt.ty pt.c.k sv pt.c.l pt.c.r pt.w pt.n] w (PQ w mb (Ks ++ [(pt.va, (1, tyq ts pt.ty))]) (n + 1) (pck ts ws ah pt 0)) := by
  have HP := hid (fun (wv : Value) W (hW : Below w.heap.size w W) (hI : Ints W wv [0, 1, 2]) => pattern_any ts ws ah b mb Ks n hkn hk hka hty pt 1 [0, 1, 2] (.inl ⟨rfl, rfl⟩) tv sv wv W (hs.later hW) (hS.later hW) hwz hI hn)
  obtain ⟨p, m, cap, rfl⟩ := rd_shape hS
  obtain ⟨tp, tn, tc, rfl⟩ := rd_shape hs.rt
  obtain ⟨va, ty, ⟨ck, csb, l, r⟩, pw, pn⟩ := pt
  simp only at HP ⊢
  have HT : Hid (Blk2 w ((w.alloc (.cells [.slice tp tn tc, .func (.func 57) #[] #[.pointer (some ⟨b, 0, none⟩)], .map (some mb)].toArray 118)).alloc (.cells [.string va, .string ty, .int .i64 ck, .slice p m cap, .int .i64 l.k, .int .i64 l.vk, .int .i64 l.vi, .string l.vt, .string l.va, .string l.fd, .int .i64 r.k, .int .i64 r.vk, .int .i64 r.vi, .string r.vt, .string r.va, .string r.fd, .int .i64 pw, .int .i64 pn].toArray 47)) [.slice tp tn tc, .func (.func 57) #[] #[.pointer (some ⟨b, 0, none⟩)], .map (some mb)] (ptC va ty ck (.slice p m cap) l r pw pn) 118 47) := Blk2.start w _ _ _ _
  have XP : Hid (((w.alloc (.cells [.slice tp tn tc, .func (.func 57) #[] #[.pointer (some ⟨b, 0, none⟩)], .map (some mb)].toArray 118)).alloc (.cells [.string va, .string ty, .int .i64 ck, .slice p m cap, .int .i64 l.k, .int .i64 l.vk, .int .i64 l.vi, .string l.vt, .string l.va, .string l.fd, .int .i64 r.k, .int .i64 r.vk, .int .i64 r.vi, .string r.vt, .string r.va, .string r.fd, .int .i64 pw, .int .i64 pn].toArray 47)).rangeAt (w.heap.size + 1) 0 (ptC va ty ck (.slice p m cap) l r pw pn)) := range_blk HT.out.b2
  clear hS hs hwz hkn hk hka hty
  go_enter Tryd.func50, Tryd.ntmps50
  go_wp2_with ((with_reducible show wpList _ _ _ (Oper.mk _ (.load _ _) _ _ _ _ :: _) _ _); refine wpList_load_mid (by rfl) 47 _ (by rfl) (w.heap.size + 1) 0 (by rfl) (ptC va ty ck (.slice p m cap) l r pw pn) _ XP.out Tryd.underlying47 rfl (by kernel_rfl) ?_)
  have hB : Below w.heap.size w (((w.alloc (.cells [.slice tp tn tc, .func (.func 57) #[] #[.pointer (some ⟨b, 0, none⟩)], .map (some mb)].toArray 118)).alloc (.cells [.string va, .string ty, .int .i64 ck, .slice p m cap, .int .i64 l.k, .int .i64 l.vk, .int .i64 l.vi, .string l.vt, .string l.va, .string l.fd, .int .i64 r.k, .int .i64 r.vk, .int .i64 r.vi, .string r.vt, .string r.va, .string r.fd, .int .i64 pw, .int .i64 pn].toArray 47)).alloc (.cells #[.int .i64 0, .int .i64 1, .int .i64 2] 3)) := HT.out.bel.alloc HT.out.bel.size _
  have hI : Ints (((w.alloc (.cells [.slice tp tn tc, .func (.func 57) #[] #[.pointer (some ⟨b, 0, none⟩)], .map (some mb)].toArray 118)).alloc (.cells [.string va, .string ty, .int .i64 ck, .slice p m cap, .int .i64 l.k, .int .i64 l.vk, .int .i64 l.vi, .string l.vt, .string l.va, .string l.fd, .int .i64 r.k, .int .i64 r.vk, .int .i64 r.vi, .string r.vt, .string r.va, .string r.fd, .int .i64 pw, .int .i64 pn].toArray 47)).alloc (.cells #[.int .i64 0, .int .i64 1, .int .i64 2] 3)) (.slice (some ⟨w.heap.size + 1 + 1, 0, none⟩) 3 3) [0, 1, 2] := ⟨_, 3, rfl, Nat.le_refl _, by decide, fun k hk => by
    have hk' : k < 3 := hk
    have e9 : ((w.alloc (.cells [.slice tp tn tc, .func (.func 57) #[] #[.pointer (some ⟨b, 0, none⟩)], .map (some mb)].toArray 118)).alloc (.cells [.string va, .string ty, .int .i64 ck, .slice p m cap, .int .i64 l.k, .int .i64 l.vk, .int .i64 l.vi, .string l.vt, .string l.va, .string l.fd, .int .i64 r.k, .int .i64 r.vk, .int .i64 r.vi, .string r.vt, .string r.va, .string r.fd, .int .i64 pw, .int .i64 pn].toArray 47)).heap.size = w.heap.size + 1 + 1 := by simp
    rw [← e9, cell_of_blk (heap_alloc_new _ _)]
    rcases (by omega : k = 0 ∨ k = 1 ∨ k = 2) with rfl | rfl | rfl <;> rfl⟩
  have X := HP.out _ _ hB hI
  have HB := hid hB
  clear hI hB
  refine X.mono ?_
  intro e w2 hr
  obtain ⟨rfl, hF, hK⟩ := hr.pq HB.out
  have HF := hid hF
  have HK := hid hK
  clear hF hK hr X
  go_wp2_with fail
  go_ret
  exact ⟨rfl, HF.out, HK.out⟩
set_option maxHeartbeats 16000000 in
theorem not_any (ts : List Tp) (ws : List Pt) (ah : List ByteArray) (b mb : Nat) (Ks : Kns) (n : Nat) (hkn : Known ts ws) (hk : Knw ts ws Ks) (hka : Kna ah Ks) (hty : ∀ i (hi : i < ts.length), tyk ts[i].n ts[i].f = 0) (pt : Pt) (tv sv : Value) (w : World) (hs : Scp w ts tv b mb Ks n) (hS : Rd w (.row 33 14 pt.c.sb) sv) (hwz : Wsz pt.c) (hn : n ≤ 100) :
    Calls Tryd.prog 51 #[scV tv b mb, ptV pt.va pt.ty pt.c.k sv pt.c.l pt.c.r pt.w pt.n] w (PQ w mb (Ks ++ [(pt.va, (2, tyq ts pt.ty))]) (n + 1) (pck ts ws ah pt 1)) := by
  have HP := hid (fun (wv : Value) W (hW : Below w.heap.size w W) (hI : Ints W wv [0]) => pattern_any ts ws ah b mb Ks n hkn hk hka hty pt 2 [0] (.inr (.inl ⟨rfl, rfl⟩)) tv sv wv W (hs.later hW) (hS.later hW) hwz hI hn)
  obtain ⟨p, m, cap, rfl⟩ := rd_shape hS
  obtain ⟨tp, tn, tc, rfl⟩ := rd_shape hs.rt
  obtain ⟨va, ty, ⟨ck, csb, l, r⟩, pw, pn⟩ := pt
  simp only at HP ⊢
  have HT : Hid (Blk2 w ((w.alloc (.cells [.slice tp tn tc, .func (.func 57) #[] #[.pointer (some ⟨b, 0, none⟩)], .map (some mb)].toArray 118)).alloc (.cells [.string va, .string ty, .int .i64 ck, .slice p m cap, .int .i64 l.k, .int .i64 l.vk, .int .i64 l.vi, .string l.vt, .string l.va, .string l.fd, .int .i64 r.k, .int .i64 r.vk, .int .i64 r.vi, .string r.vt, .string r.va, .string r.fd, .int .i64 pw, .int .i64 pn].toArray 47)) [.slice tp tn tc, .func (.func 57) #[] #[.pointer (some ⟨b, 0, none⟩)], .map (some mb)] (ptC va ty ck (.slice p m cap) l r pw pn) 118 47) := Blk2.start w _ _ _ _
  have XP : Hid (((w.alloc (.cells [.slice tp tn tc, .func (.func 57) #[] #[.pointer (some ⟨b, 0, none⟩)], .map (some mb)].toArray 118)).alloc (.cells [.string va, .string ty, .int .i64 ck, .slice p m cap, .int .i64 l.k, .int .i64 l.vk, .int .i64 l.vi, .string l.vt, .string l.va, .string l.fd, .int .i64 r.k, .int .i64 r.vk, .int .i64 r.vi, .string r.vt, .string r.va, .string r.fd, .int .i64 pw, .int .i64 pn].toArray 47)).rangeAt (w.heap.size + 1) 0 (ptC va ty ck (.slice p m cap) l r pw pn)) := range_blk HT.out.b2
  clear hS hs hwz hkn hk hka hty
  go_enter Tryd.func51, Tryd.ntmps51
  go_wp2_with ((with_reducible show wpList _ _ _ (Oper.mk _ (.load _ _) _ _ _ _ :: _) _ _); refine wpList_load_mid (by rfl) 47 _ (by rfl) (w.heap.size + 1) 0 (by rfl) (ptC va ty ck (.slice p m cap) l r pw pn) _ XP.out Tryd.underlying47 rfl (by kernel_rfl) ?_)
  have hB : Below w.heap.size w (((w.alloc (.cells [.slice tp tn tc, .func (.func 57) #[] #[.pointer (some ⟨b, 0, none⟩)], .map (some mb)].toArray 118)).alloc (.cells [.string va, .string ty, .int .i64 ck, .slice p m cap, .int .i64 l.k, .int .i64 l.vk, .int .i64 l.vi, .string l.vt, .string l.va, .string l.fd, .int .i64 r.k, .int .i64 r.vk, .int .i64 r.vi, .string r.vt, .string r.va, .string r.fd, .int .i64 pw, .int .i64 pn].toArray 47)).alloc (.cells #[.int .i64 0] 3)) := HT.out.bel.alloc HT.out.bel.size _
  have hI : Ints (((w.alloc (.cells [.slice tp tn tc, .func (.func 57) #[] #[.pointer (some ⟨b, 0, none⟩)], .map (some mb)].toArray 118)).alloc (.cells [.string va, .string ty, .int .i64 ck, .slice p m cap, .int .i64 l.k, .int .i64 l.vk, .int .i64 l.vi, .string l.vt, .string l.va, .string l.fd, .int .i64 r.k, .int .i64 r.vk, .int .i64 r.vi, .string r.vt, .string r.va, .string r.fd, .int .i64 pw, .int .i64 pn].toArray 47)).alloc (.cells #[.int .i64 0] 3)) (.slice (some ⟨w.heap.size + 1 + 1, 0, none⟩) 1 1) [0] := ⟨_, 1, rfl, Nat.le_refl _, by decide, fun k hk => by
    have hk' : k < 1 := hk
    have e9 : ((w.alloc (.cells [.slice tp tn tc, .func (.func 57) #[] #[.pointer (some ⟨b, 0, none⟩)], .map (some mb)].toArray 118)).alloc (.cells [.string va, .string ty, .int .i64 ck, .slice p m cap, .int .i64 l.k, .int .i64 l.vk, .int .i64 l.vi, .string l.vt, .string l.va, .string l.fd, .int .i64 r.k, .int .i64 r.vk, .int .i64 r.vi, .string r.vt, .string r.va, .string r.fd, .int .i64 pw, .int .i64 pn].toArray 47)).heap.size = w.heap.size + 1 + 1 := by simp
    rw [← e9, cell_of_blk (heap_alloc_new _ _)]
    rcases (by omega : k = 0) with rfl <;> rfl⟩
  have X := HP.out _ _ hB hI
  have HB := hid hB
  clear hI hB
  refine X.mono ?_
  intro e w2 hr
  obtain ⟨rfl, hF, hK⟩ := hr.pq HB.out
  have HF := hid hF
  have HK := hid hK
  clear hF hK hr X
  go_wp2_with fail
  go_ret
  exact ⟨rfl, HF.out, HK.out⟩
theorem below_fr {w W w' : World} {mb : Nat} (hb : Below w.heap.size w W) (hf : Fr (fun i => i = mb) W w') (hm : w.heap.size ≤ mb) : Below w.heap.size w w' :=
  ⟨hf.os.trans hb.os, hf.tape.trans hb.tape, hf.output.trans hb.output, Nat.le_trans hb.size hf.size, fun k hk => (hf.block k (Nat.lt_of_lt_of_le hk hb.size) (by omega)).trans (hb.block k hk)⟩
theorem ixq_any {α : Type} {q : α → Bool} : ∀ (l : List α) (n : Nat), 0 ≤ ixq q l n ↔ l.any q = true
  | [], n => by simp [ixq]
  | y :: r, n => by
    rw [ixq]
    by_cases c : q y = true
    · rw [if_pos c]; simp [c]
    · rw [if_neg c, ixq_any r (n + 1)]; simp [c]
theorem tyq_any (done : List Tp) (s : ByteArray) : 0 ≤ tyq done s ↔ (done.map Tp.n).any (fun r => seq r s) = true := by
  unfold tyq
  rw [ixq_any, List.any_map]
  rfl
/-- What is wrong with a name, where some are taken. -/
def tkn (L : List ByteArray) (s : ByteArray) : Int := if L.any (fun r => seq r s) = true then 7 else 0
set_option maxHeartbeats 8000000 in
theorem take_any (mb : Nat) (L : List ByteArray) (n : Nat) (s : ByteArray) (hs : s.size ≤ maxLen) (hn : n ≤ 100) (w : World) (h : Nm w mb L n) :
    Calls Tryd.prog 32 #[.map (some mb), .string s] w fun e w' => e = .returned (.int .i64 (tkn L s)) ∧ Fr (fun i => i = mb) w w' ∧ (tkn L s = 0 → Nm w' mb (L ++ [s]) (n + 1)) := by
  have HNM := hid h
  have HSZ := hid hs
  have HN := hid (show n ≤ 2000 by omega)
  obtain ⟨q, hq⟩ : ∃ q, L.any (fun r => seq r s) = q := ⟨_, rfl⟩
  have hq2 : L.any (fun r => r.data.toList == s.data.toList) = q := by rw [← hq]; congr 1; funext r; exact (seq_iff r s).symm
  have HQ := hid hq2
  have hR : tkn L s = if q = true then 7 else 0 := by unfold tkn; rw [hq]
  rw [hR]
  have HB := hid (fun o => (Below.refl w.heap.size w).alloc (Nat.le_refl _) o)
  clear h hs hn hq hq2 hR
  cases q with
  | true =>
    rw [if_pos rfl]
    go_enter Tryd.func32, Tryd.ntmps32
    go_wp2_with ((with_reducible show wpList _ _ _ (Oper.mk _ (.lookup _ _ _ _) _ _ _ _ :: _) _ _); refine wp_lookN (by rfl) _ _ (by rfl) mb L n (by rfl) HNM.out s HSZ.out (by rfl) true HQ.out ?_)
    go_ret
    exact ⟨rfl, Fr.of_below (HB.out _), fun c => absurd c (by decide)⟩
  | false =>
    rw [if_neg (by decide)]
    go_enter Tryd.func32, Tryd.ntmps32
    go_wp2_with (first
      | ((with_reducible show wpList _ _ _ (Oper.mk _ (.lookup _ _ _ _) _ _ _ _ :: _) _ _); refine wp_lookN (by rfl) _ _ (by rfl) mb L n (by rfl) HNM.out s HSZ.out (by rfl) false HQ.out ?_)
      | ((with_reducible show wpList _ _ _ (Oper.mk _ (.mapUpdate _ _ _ _) _ _ _ _ :: _) _ _); refine wp_storeN (by rfl) _ _ _ (by rfl) mb L n (by rfl) (HNM.out.later (HB.out _)) HN.out s HSZ.out (by rfl) (by rfl) ?_; intro w2 hn2 hf2; have HN2 := hid hn2; have HF2 := hid ((Fr.of_below (HB.out _)).trans hf2); clear hn2 hf2))
    go_ret
    exact ⟨rfl, HF2.out, fun _ => HN2.out⟩
set_option maxHeartbeats 4000000 in
theorem isKept_any (fn : ByteArray) (fk : Int) (w : World) (hk : Tab w 0 kpl) (hr : Tab w 1 rll) :
    Calls Tryd.prog 31 #[.agg #[.string fn, .int .i64 fk]] w fun e w' => e = .returned (.bool (kpt fn)) ∧ Below w.heap.size w w' := by
  have HK := hid (fun W (hW : Below w.heap.size w W) => kept_any fn W (tab_later hk hW) (tab_later hr hW))
  have HB : Hid (Below w.heap.size w (w.alloc (.cells #[.string fn, .int .i64 fk] 69))) := (Below.refl _ _).alloc (Nat.le_refl _) _
  go_enter Tryd.func31, Tryd.ntmps31
  go_wp2_with fail
  refine (HK.out _ HB.out).mono ?_
  rintro e w2 ⟨rfl, rfl⟩
  go_wp2_with fail
  go_ret
  exact ⟨rfl, HB.out⟩
set_option maxHeartbeats 8000000 in
theorem indexField_any (fs : List Fd) (v : Value) (w : World) (h : Rd w (.row 69 2 (fs.map encF)) v) (hk : Tab w 0 kpl) (hr : Tab w 1 rll) :
    Calls Tryd.prog 46 #[v, .func (.func 31) #[] #[]] w fun e w' => e = .returned (.int .i64 (ixq (fun f => kpt f.n) fs 0)) ∧ Below w.heap.size w w' := by
  obtain ⟨p, cap, rfl, hmx, hat⟩ := rd_row lenF h
  have HAT : Hid (At encF 2 w p fs) := hat
  obtain ⟨n, hnl⟩ : ∃ n, fs.length = n := ⟨_, rfl⟩
  have HN := hid hnl
  have HTK := hid hk
  have HTR := hid hr
  rw [hnl] at hmx ⊢
  clear h hat hnl hk hr
  go_enter Tryd.func46, Tryd.ntmps46
  go_wp2_with fail
  go_loopg [8] (n + 1) (fun gg i wr => ∃ k : Nat, k ≤ n ∧ gg = n + 1 - k ∧ i = .int .i64 (k : Nat) ∧ (∀ (j : Nat) (hj : j < fs.length), j < k → kpt fs[j].n = false) ∧ Below w.heap.size w wr)
  case atStart => exact ⟨0, by omega, by omega, rfl, fun j _ h => by omega, Below.refl _ _⟩
  case round =>
    obtain ⟨k, hk, rfl, rfl, hno, hB⟩ := hrel
    have HB := hid hB
    by_cases hlt : k < n
    · have hkc : k < fs.length := by have := HN.out; omega
      obtain ⟨g, off, rfl, hrd⟩ := HAT.out (by omega)
      obtain ⟨us, r1, o1⟩ := hrd wr hB k hkc
      have z1 := rdF o1
      rw [z1] at r1
      have c0 : wr.cell? ⟨g, off + k * 2, none⟩ = some (.string fs[k].n) := by simpa using r1 0 _ rfl
      have c1 : wr.cell? ⟨g, off + k * 2 + 1, none⟩ = some (.int .i64 fs[k].k) := r1 1 _ rfl
      have HCM := hid (isKept_any fs[k].n fs[k].k wr (tab_later HTK.out hB) (tab_later HTR.out hB))
      have HNO := hid hno
      obtain ⟨q, hq⟩ : ∃ q, kpt fs[k].n = q := ⟨_, rfl⟩
      have HQK : Hid (kpt fs[k].n = q) := hq
      rw [hq] at HCM
      obtain ⟨fn, hfn⟩ : ∃ fn, fs[k].n = fn := ⟨_, rfl⟩
      obtain ⟨fk, hfk⟩ : ∃ fk, fs[k].k = fk := ⟨_, rfl⟩
      rw [hfn] at c0
      rw [hfk] at c1
      rw [hfn, hfk] at HCM
      have i1 : (0 : Int) ≤ (k : Int) := by omega
      have i2 : (k : Int) < (n : Int) := by omega
      clear hno hB hrd o1 z1 r1 hq hfn hfk
      cases q with
      | true =>
        go_wp2_with (go_at_call 31; refine HCM.out.mono ?_; rintro e w2 ⟨rfl, hb2⟩; have HB2 := hid (below_trans HB.out hb2 HB.out.size); clear hb2)
        go_ret
        exact ⟨ret_int (by show (k : Int) = ixq _ _ _; rw [ixq_hit (q := fun f : Fd => kpt f.n) fs 0 k hkc (fun j hj => HNO.out j (by omega) hj) (by exact HQK.out)]; simp), HB2.out⟩
      | false =>
        go_wp2_with (go_at_call 31; refine HCM.out.mono ?_; rintro e w2 ⟨rfl, hb2⟩; have HB2 := hid (below_trans HB.out hb2 HB.out.size); clear hb2)
        go_roundg (n + 1 - (k + 1))
        case rel =>
          refine ⟨k + 1, by omega, rfl, by go_num, fun j hj hjk => ?_, HB2.out⟩
          by_cases c : j < k
          · exact HNO.out j hj c
          · obtain rfl : j = k := by omega
            exact HQK.out
        case measure => omega
    · obtain rfl : k = n := by omega
      have HR := hid (show ixq (fun f : Fd => kpt f.n) fs 0 = -1 from ixq_none _ _ (fun x hx => by
        obtain ⟨j, hj, rfl⟩ := List.getElem_of_mem hx
        exact hno j hj (by have := HN.out; omega)))
      clear hno hB
      go_wp2_with fail
      go_ret
      exact ⟨ret_int HR.out.symm, HB.out⟩
set_option maxHeartbeats 4000000 in
theorem containsField_any (fs : List Fd) (v : Value) (w : World) (q : Bool) (hq : fs.any (fun f => kpt f.n) = q) (h : Rd w (.row 69 2 (fs.map encF)) v) (hk : Tab w 0 kpl) (hr : Tab w 1 rll) :
    Calls Tryd.prog 30 #[v, .func (.func 31) #[] #[]] w fun e w' => e = .returned (.bool q) ∧ Below w.heap.size w w' := by
  have HC := hid (indexField_any fs v w h hk hr)
  obtain ⟨p, n, cap, rfl⟩ := rd_shape h
  have ha := ixq_any (q := fun f : Fd => kpt f.n) fs 0
  rw [hq] at ha
  obtain ⟨x, hx⟩ : ∃ x, ixq (fun f : Fd => kpt f.n) fs 0 = x := ⟨_, rfl⟩
  rw [hx] at ha HC
  have d : decide (0 ≤ x) = q := by cases q <;> simp_all
  clear hx hq h ha hk hr
  cases q with
  | true =>
    go_enter Tryd.func30, Tryd.ntmps30
    go_wp2_with fail
    refine HC.out.mono ?_
    rintro e w2 ⟨rfl, hb2⟩
    have HB := hid hb2
    clear hb2
    go_wp2_with fail
    go_ret
    exact ⟨rfl, HB.out⟩
  | false =>
    go_enter Tryd.func30, Tryd.ntmps30
    go_wp2_with fail
    refine HC.out.mono ?_
    rintro e w2 ⟨rfl, hb2⟩
    have HB := hid hb2
    clear hb2
    go_wp2_with fail
    go_ret
    exact ⟨rfl, HB.out⟩
/-- What is at hand while names are taken. -/
structure Tsc (w : World) (cb mb : Nat) (L : List ByteArray) (n : Nat) : Prop where
  cc : w.cell? ⟨cb, 0, none⟩ = some (.map (some mb))
  nm : Nm w mb L n
  tk : Tab w 0 kpl
  tr : Tab w 1 rll
theorem Nm.isMap {w : World} {mb : Nat} {L : List ByteArray} {n : Nat} (h : Nm w mb L n) : ∃ es c, w.heap[mb]? = some (.map es c) := by
  obtain ⟨D, ⟨es, clock, hb, _⟩, _⟩ := h
  exact ⟨es, clock, hb⟩
theorem Tsc.later {w w' : World} {cb mb n : Nat} {L : List ByteArray} (h : Tsc w cb mb L n) (hb : Below w.heap.size w w') : Tsc w' cb mb L n :=
  ⟨(hb.cell (p := ⟨cb, 0, none⟩) (World.block_lt_of_cell? _ _ h.cc)).trans h.cc, h.nm.later hb, tab_later h.tk hb, tab_later h.tr hb⟩
theorem Tsc.fr {w w' : World} {cb mb n n' : Nat} {L L' : List ByteArray} (h : Tsc w cb mb L n) (hf : Fr (fun i => i = mb) w w') (hk : Nm w' mb L' n') : Tsc w' cb mb L' n' :=
  ⟨cell_fr h.nm.isMap hf h.cc, hk, tab_fr h.nm.isMap hf h.tk (by decide), tab_fr h.nm.isMap hf h.tr (by decide)⟩
/-- What is wrong with a type behind others. -/
def tk1 (done : List Tp) (t : Tp) : Int := if tyk t.n t.f ≠ 0 then tyk t.n t.f else if kpt t.n = true then 4 else if t.f.any (fun f => kpt f.n) = true then 4 else tkn (done.map Tp.n) t.n
theorem tks_step (done : List Tp) (t : Tp) (r : List Tp) : tks done (t :: r) = if tk1 done t ≠ 0 then tk1 done t else tks (done ++ [t]) r := by
  rw [tks]
  unfold tk1 tkn
  by_cases h1 : tyk t.n t.f = 0
  · by_cases h2 : kpt t.n = true
    · simp [h1, h2]
    · by_cases h3 : t.f.any (fun f => kpt f.n) = true
      · simp only [h1, h2, h3, if_true]; simp
      · by_cases h4 : (done.map Tp.n).any (fun r => seq r t.n) = true
        · have e : (if tyk t.n t.f ≠ 0 then tyk t.n t.f else if kpt t.n = true then 4 else if t.f.any (fun f => kpt f.n) = true then 4 else if (done.map Tp.n).any (fun r => seq r t.n) = true then 7 else 0) = 7 := by rw [if_neg (fun c => c h1), if_neg h2, if_neg h3, if_pos h4]
          rw [e, if_neg (fun c => c h1), if_neg h2, if_neg h3, if_pos ((tyq_any done t.n).2 h4)]
          rfl
        · have e : (if tyk t.n t.f ≠ 0 then tyk t.n t.f else if kpt t.n = true then 4 else if t.f.any (fun f => kpt f.n) = true then 4 else if (done.map Tp.n).any (fun r => seq r t.n) = true then 7 else 0) = 0 := by rw [if_neg (fun c => c h1), if_neg h2, if_neg h3, if_neg h4]
          rw [e, if_neg (fun c => c h1), if_neg h2, if_neg h3, if_neg (fun c => h4 ((tyq_any done t.n).1 c))]
          rfl
  · simp [h1]
theorem tyk_size {n : ByteArray} {fs : List Fd} (h : tyk n fs = 0) : n.size ≤ maxLen := by
  unfold tyk at h
  have h1 : nchk n = 0 := by
    by_cases c : nchk n = 0
    · exact c
    · rw [if_pos c] at h; exact h
  unfold nchk at h1
  by_cases c : n.size < 1 ∨ 10 < n.size
  · rw [if_pos c] at h1; cases h1
  · unfold maxLen; omega
set_option maxHeartbeats 16000000 in
theorem checkType1_any (done : List Tp) (t : Tp) (fv : Value) (cb mb n : Nat) (w : World) (hs : Tsc w cb mb (done.map Tp.n) n) (hF : Rd w (.row 69 2 (t.f.map encF)) fv) (hn : n ≤ 100) :
    Calls Tryd.prog 27 #[.agg #[.string t.n, fv], .pointer (some ⟨cb, 0, none⟩)] w fun e w' => e = .returned (.int .i64 (tk1 done t)) ∧ Fr (fun i => i = mb) w w' ∧ (tk1 done t = 0 → Nm w' mb ((done ++ [t]).map Tp.n) (n + 1)) := by
  obtain ⟨fp, fn, fc, rfl⟩ := rd_shape hF
  obtain ⟨tn, tf⟩ := t
  simp only at hF ⊢
  obtain ⟨qk, hqk⟩ : ∃ q, kpt tn = q := ⟨_, rfl⟩
  obtain ⟨qa, hqa⟩ : ∃ q, tf.any (fun f => kpt f.n) = q := ⟨_, rfl⟩
  have HCT := hid (fun W (hW : Below w.heap.size w W) => checkType_p tn tf (.slice fp fn fc) W (hF.later hW))
  have HKE := hid (fun W (hW : Below w.heap.size w W) => kept_any tn W (tab_later hs.tk hW) (tab_later hs.tr hW))
  have HCF := hid (fun W (hW : Below w.heap.size w W) => containsField_any tf (.slice fp fn fc) W qa hqa (hF.later hW) (tab_later hs.tk hW) (tab_later hs.tr hW))
  have HTA := hid (fun W (hW : Below w.heap.size w W) (hz : tyk tn tf = 0) => take_any mb (done.map Tp.n) n tn (tyk_size hz) hn W (hs.nm.later hW))
  have HCC := hid (fun W (hW : Below w.heap.size w W) => (hs.later hW).cc)
  have hmp : (done ++ [(⟨tn, tf⟩ : Tp)]).map Tp.n = done.map Tp.n ++ [tn] := by rw [List.map_append]; rfl
  rw [hmp]
  unfold tk1
  simp only
  rw [hqk, hqa]
  rw [hqk] at HKE
  obtain ⟨E0, hE0⟩ : ∃ E, tyk tn tf = E := ⟨_, rfl⟩
  rw [hE0] at HCT HTA
  rw [hE0]
  obtain ⟨E3, hE3⟩ : ∃ E, tkn (done.map Tp.n) tn = E := ⟨_, rfl⟩
  rw [hE3] at HTA
  rw [hE3]
  have HT : Hid (BlkT w (w.alloc (.cells [.string tn, .slice fp fn fc].toArray 72)) [.string tn, .slice fp fn fc] 72) := BlkT.start w _ _
  clear hs hF hn hqk hqa hmp hE0 hE3
  by_cases hz : E0 = 0
  · have HZ := hid hz
    cases qk with
    | true =>
      rw [if_neg (fun c => c hz), if_pos rfl]
      subst hz
      go_enter Tryd.func27, Tryd.ntmps27
      go_wp2_with fail
      refine (HCT.out _ HT.out.bel).mono ?_
      rintro e w1 ⟨rfl, hb1⟩
      have HT1 : Hid (BlkT w w1 [.string tn, .slice fp fn fc] 72) := HT.out.next hb1
      clear hb1
      have c0 : w1.cell? ⟨w.heap.size, 0, none⟩ = some (.string tn) := HT1.out.c 0
      go_wp2_with (go_at_call 29; refine (HKE.out _ HT1.out.bel).mono ?_; rintro e w2 ⟨rfl, rfl⟩)
      go_ret
      exact ⟨rfl, Fr.of_below HT1.out.bel, fun c => absurd c (by decide)⟩
    | false =>
      cases qa with
      | true =>
        rw [if_neg (fun c => c hz), if_neg (by decide), if_pos rfl]
        subst hz
        go_enter Tryd.func27, Tryd.ntmps27
        go_wp2_with fail
        refine (HCT.out _ HT.out.bel).mono ?_
        rintro e w1 ⟨rfl, hb1⟩
        have HT1 : Hid (BlkT w w1 [.string tn, .slice fp fn fc] 72) := HT.out.next hb1
        clear hb1
        have c0 : w1.cell? ⟨w.heap.size, 0, none⟩ = some (.string tn) := HT1.out.c 0
        have c1 : w1.cell? ⟨w.heap.size, 1, none⟩ = some (.slice fp fn fc) := HT1.out.c 1
        go_wp2_with (first
          | (go_at_call 29; refine (HKE.out _ HT1.out.bel).mono ?_; rintro e w2 ⟨rfl, rfl⟩)
          | (go_at_call 30; refine (HCF.out _ HT1.out.bel).mono ?_; rintro e w2 ⟨rfl, hb2⟩; have HT2 := hid (HT1.out.next hb2); clear hb2))
        go_ret
        exact ⟨rfl, Fr.of_below HT2.out.bel, fun c => absurd c (by decide)⟩
      | false =>
        rw [if_neg (fun c => c hz), if_neg (by decide), if_neg (by decide)]
        subst hz
        go_enter Tryd.func27, Tryd.ntmps27
        go_wp2_with fail
        refine (HCT.out _ HT.out.bel).mono ?_
        rintro e w1 ⟨rfl, hb1⟩
        have HT1 : Hid (BlkT w w1 [.string tn, .slice fp fn fc] 72) := HT.out.next hb1
        clear hb1
        have c0 : w1.cell? ⟨w.heap.size, 0, none⟩ = some (.string tn) := HT1.out.c 0
        have c1 : w1.cell? ⟨w.heap.size, 1, none⟩ = some (.slice fp fn fc) := HT1.out.c 1
        go_wp2_with (first
          | (go_at_call 29; refine (HKE.out _ HT1.out.bel).mono ?_; rintro e w2 ⟨rfl, rfl⟩)
          | (go_at_call 30; refine (HCF.out _ HT1.out.bel).mono ?_; rintro e w2 ⟨rfl, hb2⟩; have HT2 := hid (HT1.out.next hb2); clear hb2; have c2 : w2.cell? ⟨w.heap.size, 0, none⟩ = some (.string tn) := HT2.out.c 0; have c3 : w2.cell? ⟨cb, 0, none⟩ = some (.map (some mb)) := HCC.out _ HT2.out.bel))
        refine (HTA.out _ HT2.out.bel HZ.out).mono ?_
        rintro e w3 ⟨rfl, hf3, hk3⟩
        have HF3 := hid ((Fr.of_below HT2.out.bel).trans hf3)
        have HK3 := hid hk3
        clear hf3 hk3
        go_wp2_with fail
        go_ret
        exact ⟨rfl, HF3.out, HK3.out⟩
  · rw [if_pos hz]
    have d9 : (E0 != 0) = true := by simpa using hz
    have HZ := hid hz
    clear hz
    go_enter Tryd.func27, Tryd.ntmps27
    go_wp2_with fail
    refine (HCT.out _ HT.out.bel).mono ?_
    rintro e w1 ⟨rfl, hb1⟩
    have HT1 : Hid (BlkT w w1 [.string tn, .slice fp fn fc] 72) := HT.out.next hb1
    clear hb1
    go_wp2_with fail
    go_ret
    exact ⟨rfl, Fr.of_below HT1.out.bel, fun c => absurd c HZ.out⟩
set_option maxHeartbeats 32000000 in
theorem firstType_any (ts : List Tp) (cb mb n0 : Nat) (lv : Value) (w : World) (hs : Tsc w cb mb [] n0) (hR : Rd w (.row 72 2 (ts.map encY)) lv) (hn : n0 + ts.length ≤ 100) :
    Calls Tryd.prog 26 #[lv, .func (.func 27) #[] #[.pointer (some ⟨cb, 0, none⟩)]] w fun e w' => e = .returned (.int .i64 (tks [] ts)) ∧ Fr (fun i => i = mb) w w' ∧ (tks [] ts = 0 → Tsc w' cb mb ((ts.take (ts.length)).map Tp.n) (n0 + (ts.length))) := by
  have HS := hid hs
  have HL := hid hR
  have HNN := hid hn
  obtain ⟨p, cap, rfl, hmx, _⟩ := rd_row lenY hR
  obtain ⟨n, hnl⟩ : ∃ n, ts.length = n := ⟨_, rfl⟩
  have HN := hid hnl
  obtain ⟨R, hRR⟩ : ∃ R, tks [] ts = R := ⟨_, rfl⟩
  have HR := hid hRR
  rw [hRR]
  rw [hnl] at hmx HL ⊢
  clear hR hs hn hnl hRR
  go_enter Tryd.func26, Tryd.ntmps26
  go_wp2_with fail
  go_loopg [10] (n + 1) (fun gg i wr => ∃ k : Nat, k ≤ n ∧ gg = n + 1 - k ∧ i = .int .i64 (k : Nat) ∧ tks (ts.take k) (ts.drop k) = R ∧ Fr (fun i => i = mb) w wr ∧ Tsc wr cb mb ((ts.take (k)).map Tp.n) (n0 + (k)))
  case atStart => exact ⟨0, by omega, by omega, rfl, by simpa using HR.out, Fr.refl _ _, by simpa using HS.out⟩
  case round =>
    obtain ⟨k, hk, rfl, rfl, hev, hF, hI⟩ := hrel
    have HF := hid hF
    have HI := hid hI
    by_cases hlt : k < n
    · have hkc : k < ts.length := by have := HN.out; omega
      obtain ⟨p', cap', e0, _, hat⟩ := rd_row lenY (HL.out.fr HS.out.nm.isMap hF)
      simp only [Value.slice.injEq] at e0
      obtain ⟨rfl, hx0, rfl⟩ := e0
      obtain ⟨g, off, rfl, hrd⟩ := hat (by omega)
      obtain ⟨A, r1, o1⟩ := hrd wr (Below.refl _ _) k hkc
      obtain ⟨fv, z1, o2⟩ := rdY o1
      obtain ⟨up, un, uc, hu⟩ := rd_shape o2
      have hAz : A.length = 2 := o1.1.symm
      rw [List.drop_eq_getElem_cons hkc, tks_step] at hev
      have htk : ts.take (k + 1) = ts.take k ++ [ts[k]] := List.take_succ_eq_append_getElem hkc
      have hcall := fun W (hW : Below wr.heap.size wr W) => checkType1_any (ts.take k) ts[k] fv cb mb (n0 + k) W (hI.later hW) (o2.later hW) (by have := HNN.out; omega)
      rw [← htk] at hcall
      obtain ⟨e9, he9⟩ : ∃ e9, tk1 (ts.take k) ts[k] = e9 := ⟨_, rfl⟩
      rw [he9] at hcall hev
      have HCM : Hid (∀ W, Below wr.heap.size wr W → Calls Tryd.prog 27 #[.agg A.toArray, .pointer (some ⟨cb, 0, none⟩)] W (fun e w' => e = .returned (.int .i64 e9) ∧ Fr (fun i => i = mb) W w' ∧ (e9 = 0 → Nm w' mb ((ts.take (k + 1)).map Tp.n) (n0 + k + 1)))) := fun W hW => by rw [z1]; exact hcall W hW
      have HAO : Hid (A.all (·.oneCell') = true) := by show _ = _; rw [z1, hu]; rfl
      have ZA : Hid ((Tryd.prog.info? 72).map (·.size) = some A.length) := by show _ = _; rw [hAz]; kernel_rfl
      have HAL := hid hAz
      have X1_ := hid r1
      have HEV := hid hev
      have HTK := hid htk
      have i1 : (0 : Int) ≤ (k : Int) := by omega
      have i2 : (k : Int) < (n : Int) := by omega
      clear hF hI hat hrd r1 o1 hAz hev htk hx0 hcall he9 z1 hu o2
      go_wp2_with (first
        | ((with_reducible show wpList _ _ _ (Oper.mk _ (.load _ _) _ _ _ _ :: _) _ _); refine wpList_load_mid (by rfl) 72 _ (by rfl) g (off + k * 2) (by rfl) A _ X1_.out Tryd.underlying72 rfl ZA.out ?_)
        | ((with_reducible show wpList _ _ _ (Oper.mk _ (.store _ _ _) _ _ _ _ :: _) _ _); refine wp_st (by rfl) 72 _ _ (by rfl) wr.heap.size 0 _ 72 (.agg A.toArray) A (by rfl) (by rfl) (by rfl) (heap_alloc_new _ _) (by have := HAL.out; simp; omega) ZA.out HAO.out ?_; intro w1 hblk hfr; rw [ovr_all (by rw [HAL.out]; rfl)] at hblk; have XB : Hid (w1.rangeAt wr.heap.size 0 A) := range_blk hblk; have HBW : Hid (Below wr.heap.size wr w1) := new_store hfr; clear hblk hfr)
        | ((with_reducible show wpList _ _ _ (Oper.mk _ (.load _ _) _ _ _ _ :: _) _ _); refine wpList_load_mid (by rfl) 72 _ (by rfl) wr.heap.size 0 (by rfl) A _ XB.out Tryd.underlying72 rfl ZA.out ?_))
      refine (HCM.out _ HBW.out).mono ?_
      rintro e w2 ⟨rfl, hf2, hk2⟩
      have HF2 : Hid (Fr (fun i => i = mb) w w2) := HF.out.trans ((Fr.of_below HBW.out).trans hf2)
      have HK2 := hid hk2
      have HS1 := hid ((HI.out.later HBW.out))
      have HFR := hid hf2
      clear hk2 hf2
      by_cases hz : e9 = 0
      · have HE2 := HEV.out
        rw [if_neg (fun c => c hz)] at HE2
        have HE3 := hid HE2
        have HI2 := hid (show Tsc w2 cb mb ((ts.take (k + 1)).map Tp.n) (n0 + (k + 1)) from HS1.out.fr HFR.out (HK2.out hz))
        subst hz
        clear HE2 HK2 HS1 HFR
        go_wp2_with fail
        go_roundg (n + 1 - (k + 1))
        case rel => exact ⟨k + 1, by omega, rfl, by go_num, by rw [HTK.out]; exact HE3.out, HF2.out, HI2.out⟩
        case measure => omega
      · have HE2 : Hid (R = e9) := by have h := HEV.out; rw [if_pos hz] at h; exact h.symm
        have d9 : (e9 != 0) = true := by simpa using hz
        have HZ := hid hz
        clear hz HK2 HS1 HFR
        go_wp2_with fail
        go_ret
        exact ⟨ret_int HE2.out.symm, HF2.out, fun c => absurd (HE2.out.symm.trans c) HZ.out⟩
    · obtain rfl : k = n := by omega
      have hw : ts.take k = ts := List.take_of_length_le (by have := HN.out; omega)
      have hd : ts.drop k = [] := List.drop_of_length_le (by have := HN.out; omega)
      rw [hd, tks] at hev
      have HE2 : Hid (R = 0) := hev.symm
      have HI2 := hid hI
      clear hev hd hF hI hw
      go_wp2_with fail
      go_ret
      exact ⟨ret_int HE2.out.symm, HF.out, fun _ => HI2.out⟩
set_option maxHeartbeats 8000000 in
theorem checkTypes_any (ts : List Tp) (tv : Value) (w : World) (hT : Rd w (.row 72 2 (ts.map encY)) tv) (htk : Tab w 0 kpl) (htr : Tab w 1 rll) (hn : ts.length ≤ 90) :
    Calls Tryd.prog 20 #[tv] w fun e w' => e = .returned (.int .i64 (tks [] ts)) ∧ Below w.heap.size w w' := by
  have HC := hid (fun W cb mb (hs : Tsc W cb mb [] 0) hR => firstType_any ts cb mb 0 tv W hs hR (by omega))
  obtain ⟨tp, tn, tc, rfl⟩ := rd_shape hT
  have hmm := @run_makeMap Tryd.prog
  have hb0 : Below w.heap.size w (w.alloc (.map #[] 0)) := (Below.refl _ _).alloc (Nat.le_refl _) _
  have hb1 : Below (w.alloc (.map #[] 0)).heap.size (w.alloc (.map #[] 0)) ((w.alloc (.map #[] 0)).alloc (.cells #[.map (some w.heap.size)] 92)) := (Below.refl _ _).alloc (Nat.le_refl _) _
  have hb2 : Below w.heap.size w ((w.alloc (.map #[] 0)).alloc (.cells #[.map (some w.heap.size)] 92)) := below_trans hb0 hb1 (by simp)
  have HTS : Hid (Tsc ((w.alloc (.map #[] 0)).alloc (.cells #[.map (some w.heap.size)] 92)) (w.heap.size + 1) w.heap.size [] 0) := ⟨cell_of_blk (heap_2 _ _ _) 0, (nm_made w).later hb1, tab_later htk hb2, tab_later htr hb2⟩
  have HRD := hid (hT.later hb2)
  have HB2 := hid hb2
  clear hb0 hb1 hb2 hT htk htr hn
  go_enter Tryd.func20, Tryd.ntmps20
  go_wp2_with fail
  refine (HC.out _ _ _ HTS.out HRD.out).mono ?_
  rintro e w3 ⟨rfl, hf3, _⟩
  have HB3 : Hid (Below w.heap.size w w3) := below_fr HB2.out hf3 (Nat.le_refl _)
  clear hf3
  go_wp2_with fail
  go_ret
  exact ⟨rfl, HB3.out⟩
end Go.Proofs.YtnajcoikcoegoaaDoor.Chk
