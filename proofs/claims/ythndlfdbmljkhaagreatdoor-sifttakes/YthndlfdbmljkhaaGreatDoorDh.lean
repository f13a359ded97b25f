/-
  What is known; a when, a not and a many, by the program.
-/
import Derived.Test.YthndlfdbmljkhaaGreatDoorDg
namespace Go.Proofs.YthndlfdbmljkhaaGreatDoor.Chk
open Go.ChangeShapes Go.WideShapes Go.ChangeAt Go.RowKit Go.Maps
set_option linter.unusedVariables false
set_option linter.unusedSimpArgs false
set_option maxRecDepth 20000
def kw (ts : List Tp) (ws : List Pt) : Kns := ws.map fun p => (p.va, ((1 : Int), tyq ts p.ty))
def kn (ts : List Tp) (ns : List Pt) : Kns := ns.map fun p => (p.va, ((2 : Int), tyq ts p.ty))
def km (ts : List Tp) (ms : List Mn) : Kns := ms.map fun m => (m.p.va, ((3 : Int), tyq ts m.p.ty))
theorem seq_iff (a b : ByteArray) : seq a b = (a.data.toList == b.data.toList) := by
  unfold seq
  rw [Lib.toList_data, Lib.toList_data]
theorem lkp_none {Ks : Kns} {x : List UInt8} : lkp Ks x = none ↔ ∀ e, e ∈ Ks → (e.1.data.toList == x) = false := by
  unfold lkp
  rw [Option.map_eq_none_iff, List.find?_eq_none]
  constructor
  · intro h e he; have := h e he; simpa using this
  · intro h e he; have := h e he; simpa using this
theorem lkp_some {Ks : Kns} {x : List UInt8} {q : Int × Int} (h : lkp Ks x = some q) : ∃ e, e ∈ Ks ∧ e.2 = q := by
  unfold lkp at h
  cases hf : Ks.find? (fun p => p.1.data.toList == x) with
  | none => rw [hf] at h; cases h
  | some e => rw [hf] at h; exact ⟨e, List.mem_of_find?_eq_some hf, by simpa using h⟩
theorem Kna_of {Ks : Kns} (h : ∀ e, e ∈ Ks → e.2.1 ≠ 0) : Kna (Ks.map (·.1)) Ks := fun va => by
  refine ⟨fun q hq => ?_, ?_⟩
  · obtain ⟨e, he, rfl⟩ := lkp_some hq
    exact h e he
  · rw [lkp_none, List.any_map, List.any_eq_false]
    constructor
    · intro h1 e he
      have := h1 e he
      simp only [Function.comp, seq_iff, this]
      decide
    · intro h1 e he
      have := h1 e he
      simp only [Function.comp, seq_iff] at this
      simpa using this
theorem lkp_append (A B : Kns) (x : List UInt8) : lkp (A ++ B) x = match lkp A x with | some q => some q | none => lkp B x := by
  unfold lkp
  rw [List.find?_append]
  cases A.find? (fun p => p.1.data.toList == x) with
  | some q => rfl
  | none => rfl
theorem find_ixq {α : Type} {q : α → Bool} : ∀ (l : List α) (n k : Nat) (hk : k < l.length), ixq q l n = ((n + k : Nat) : Int) → l.find? q = some l[k]
  | x :: r, n, k, hk, h => by
    rw [ixq] at h
    by_cases c : q x = true
    · rw [if_pos c] at h
      have : k = 0 := by omega
      subst this
      simp [c]
    · rw [if_neg c] at h
      have c' : q x = false := by simpa using c
      rcases k with _ | k
      · exfalso
        rcases ixq_lt (q := q) r (n + 1) with d | ⟨j, hj, d, _⟩
        · rw [d] at h; omega
        · rw [d] at h; omega
      · rw [List.find?_cons, c']
        simp only [List.getElem_cons_succ]
        exact find_ixq r (n + 1) k (by simpa using hk) (by rw [h]; omega)
theorem Knw_of {ts : List Tp} {ws : List Pt} {B : Kns} (h : ∀ e, e ∈ B → e.2.1 ≠ 1) : Knw ts ws (kw ts ws ++ B) := by
  constructor
  · intro va hlt
    have hn : lkp (kw ts ws) va.data.toList = none := by
      rw [lkp_none]
      intro e he
      obtain ⟨p, hp, rfl⟩ := List.mem_map.1 he
      rcases ixq_lt (q := fun p : Pt => seq p.va va) ws 0 with c | ⟨j, hj, c, _⟩
      · cases hq : (p.va.data.toList == va.data.toList) with
        | false => rfl
        | true =>
          exfalso
          obtain ⟨j, hj, rfl⟩ := List.getElem_of_mem hp
          have : ∀ (l : List Pt) (n : Nat), ixq (fun p : Pt => seq p.va va) l n = -1 → ∀ x, x ∈ l → seq x.va va = false := by
            intro l
            induction l with
            | nil => intro n _ x hx; cases hx
            | cons y r ih =>
              intro n h0 x hx
              rw [ixq] at h0
              by_cases c : seq y.va va = true
              · rw [if_pos c] at h0; omega
              · rw [if_neg c] at h0
                rcases List.mem_cons.1 hx with rfl | hx
                · simpa using c
                · exact ih (n + 1) h0 x hx
          have h2 := this ws 0 c _ hp
          rw [seq_iff, hq] at h2
          cases h2
      · exfalso
        have : ptq ws va = (j : Int) := by show ixq _ _ _ = _; rw [c]; simp
        omega
    rw [lkp_append, hn]
    cases hb : lkp B va.data.toList with
    | none => decide
    | some q =>
      obtain ⟨e, he, rfl⟩ := lkp_some hb
      exact h e he
  · intro va j hj hp
    have hf := find_ixq (q := fun p : Pt => seq p.va va) ws 0 j hj (by rw [show ixq (fun p : Pt => seq p.va va) ws 0 = (j : Int) from hp]; simp)
    rw [lkp_append]
    have : lkp (kw ts ws) va.data.toList = some (1, tyq ts ws[j].ty) := by
      unfold lkp kw
      rw [List.find?_map]
      have e : ((fun p : ByteArray × (Int × Int) => p.1.data.toList == va.data.toList) ∘ fun p : Pt => (p.va, ((1 : Int), tyq ts p.ty))) = fun p : Pt => seq p.va va := by funext p; simp [seq_iff]
      rw [e, hf]
      rfl
    rw [this]
/-- What a part's check leaves. -/
def PQ (w : World) (mb : Nat) (Ks : Kns) (n : Nat) (E : Int) (e : Ending) (w' : World) : Prop :=
  e = .returned (.int .i64 E) ∧ Fr (fun i => i = mb) w w' ∧ (E = 0 → Km w' mb Ks n)
theorem PR.pq {w W w' : World} {mb : Nat} {Ks : Kns} {n : Nat} {va : ByteArray} {q : Int × Int} {E : Int} {e : Ending} (h : PR W mb Ks n va q E e w') (hb : Below w.heap.size w W) : PQ w mb (Ks ++ [(va, q)]) (n + 1) E e w' := by
  obtain ⟨h1, h2, h3⟩ := h
  refine ⟨h1, ?_, fun c => (h3 c).2⟩
  by_cases c : E = 0
  · exact (Fr.of_below hb).trans (h3 c).1
  · exact (Fr.of_below hb).trans (Fr.of_below (h2 c))
set_option maxHeartbeats 16000000 in
theorem when_any (ts : List Tp) (ws : List Pt) (ah : List ByteArray) (b mb : Nat) (Ks : Kns) (n : Nat) (hkn : Known ts ws) (hk : Knw ts ws Ks) (hka : Kna ah Ks) (hty : ∀ i (hi : i < ts.length), tyk ts[i].n ts[i].f = 0) (pt : Pt) (tv sv : Value) (w : World) (hs : Scp w ts tv b mb Ks n) (hS : Rd w (.row 63 14 pt.c.sb) sv) (hwz : Wsz pt.c) (hn : n ≤ 100) :
    Calls Tryz.prog 104 #[scV tv b mb, ptV pt.va pt.ty pt.c.k sv pt.c.l pt.c.r pt.w pt.n] w (PQ w mb (Ks ++ [(pt.va, (1, tyq ts pt.ty))]) (n + 1) (pck ts ws ah pt 0)) := by
  have HP := hid (fun (wv : Value) W (hW : Below w.heap.size w W) (hI : Ints W wv [0, 1, 2]) => pattern_any ts ws ah b mb Ks n hkn hk hka hty pt 1 [0, 1, 2] (.inl ⟨rfl, rfl⟩) tv sv wv W (hs.later hW) (hS.later hW) hwz hI hn)
  obtain ⟨p, m, cap, rfl⟩ := rd_shape hS
  obtain ⟨tp, tn, tc, rfl⟩ := rd_shape hs.rt
  obtain ⟨va, ty, ⟨ck, csb, l, r⟩, pw, pn⟩ := pt
  simp only at HP ⊢
  have HT : Hid (Blk2 w ((w.alloc (.cells [.slice tp tn tc, .func (.func 111) #[] #[.pointer (some ⟨b, 0, none⟩)], .map (some mb)].toArray 163)).alloc (.cells [.string va, .string ty, .int .i64 ck, .slice p m cap, .int .i64 l.k, .int .i64 l.vk, .int .i64 l.vi, .string l.vt, .string l.va, .string l.fd, .int .i64 r.k, .int .i64 r.vk, .int .i64 r.vi, .string r.vt, .string r.va, .string r.fd, .int .i64 pw, .int .i64 pn].toArray 65)) [.slice tp tn tc, .func (.func 111) #[] #[.pointer (some ⟨b, 0, none⟩)], .map (some mb)] (ptC va ty ck (.slice p m cap) l r pw pn) 163 65) := Blk2.start w _ _ _ _
  have XP : Hid (((w.alloc (.cells [.slice tp tn tc, .func (.func 111) #[] #[.pointer (some ⟨b, 0, none⟩)], .map (some mb)].toArray 163)).alloc (.cells [.string va, .string ty, .int .i64 ck, .slice p m cap, .int .i64 l.k, .int .i64 l.vk, .int .i64 l.vi, .string l.vt, .string l.va, .string l.fd, .int .i64 r.k, .int .i64 r.vk, .int .i64 r.vi, .string r.vt, .string r.va, .string r.fd, .int .i64 pw, .int .i64 pn].toArray 65)).rangeAt (w.heap.size + 1) 0 (ptC va ty ck (.slice p m cap) l r pw pn)) := range_blk HT.out.b2
  clear hS hs hwz hkn hk hka hty
  go_enter Tryz.func104, Tryz.ntmps104
  go_wp2_with ((with_reducible show wpList _ _ _ (Oper.mk _ (.load _ _) _ _ _ _ :: _) _ _); refine wpList_load_mid (by rfl) 65 _ (by rfl) (w.heap.size + 1) 0 (by rfl) (ptC va ty ck (.slice p m cap) l r pw pn) _ XP.out Tryz.underlying65 rfl (by kernel_rfl) ?_)
  have hB : Below w.heap.size w (((w.alloc (.cells [.slice tp tn tc, .func (.func 111) #[] #[.pointer (some ⟨b, 0, none⟩)], .map (some mb)].toArray 163)).alloc (.cells [.string va, .string ty, .int .i64 ck, .slice p m cap, .int .i64 l.k, .int .i64 l.vk, .int .i64 l.vi, .string l.vt, .string l.va, .string l.fd, .int .i64 r.k, .int .i64 r.vk, .int .i64 r.vi, .string r.vt, .string r.va, .string r.fd, .int .i64 pw, .int .i64 pn].toArray 65)).alloc (.cells #[.int .i64 0, .int .i64 1, .int .i64 2] 3)) := HT.out.bel.alloc HT.out.bel.size _
  have hI : Ints (((w.alloc (.cells [.slice tp tn tc, .func (.func 111) #[] #[.pointer (some ⟨b, 0, none⟩)], .map (some mb)].toArray 163)).alloc (.cells [.string va, .string ty, .int .i64 ck, .slice p m cap, .int .i64 l.k, .int .i64 l.vk, .int .i64 l.vi, .string l.vt, .string l.va, .string l.fd, .int .i64 r.k, .int .i64 r.vk, .int .i64 r.vi, .string r.vt, .string r.va, .string r.fd, .int .i64 pw, .int .i64 pn].toArray 65)).alloc (.cells #[.int .i64 0, .int .i64 1, .int .i64 2] 3)) (.slice (some ⟨w.heap.size + 1 + 1, 0, none⟩) 3 3) [0, 1, 2] := ⟨_, 3, rfl, Nat.le_refl _, by decide, fun k hk => by
    have hk' : k < 3 := hk
    have e9 : ((w.alloc (.cells [.slice tp tn tc, .func (.func 111) #[] #[.pointer (some ⟨b, 0, none⟩)], .map (some mb)].toArray 163)).alloc (.cells [.string va, .string ty, .int .i64 ck, .slice p m cap, .int .i64 l.k, .int .i64 l.vk, .int .i64 l.vi, .string l.vt, .string l.va, .string l.fd, .int .i64 r.k, .int .i64 r.vk, .int .i64 r.vi, .string r.vt, .string r.va, .string r.fd, .int .i64 pw, .int .i64 pn].toArray 65)).heap.size = w.heap.size + 1 + 1 := by simp
    rw [← e9, cell_of_blk (heap_alloc_new _ _)]
    rcases (by omega : k = 0 ∨ k = 1 ∨ k = 2) with rfl | rfl | rfl <;> rfl⟩
  have X := HP.out _ _ hB hI
  have HB := hid hB
  clear hI hB
  refine X.mono ?_
  intro e w2 hr
  obtain ⟨rfl, hF, hK⟩ := hr.pq HB.out
  have HF := hid hF
  have HK := hid hK
  clear hF hK hr X
  go_wp2_with fail
  go_ret
  exact ⟨rfl, HF.out, HK.out⟩
set_option maxHeartbeats 16000000 in
theorem not_any (ts : List Tp) (ws : List Pt) (ah : List ByteArray) (b mb : Nat) (Ks : Kns) (n : Nat) (hkn : Known ts ws) (hk : Knw ts ws Ks) (hka : Kna ah Ks) (hty : ∀ i (hi : i < ts.length), tyk ts[i].n ts[i].f = 0) (pt : Pt) (tv sv : Value) (w : World) (hs : Scp w ts tv b mb Ks n) (hS : Rd w (.row 63 14 pt.c.sb) sv) (hwz : Wsz pt.c) (hn : n ≤ 100) :
    Calls Tryz.prog 105 #[scV tv b mb, ptV pt.va pt.ty pt.c.k sv pt.c.l pt.c.r pt.w pt.n] w (PQ w mb (Ks ++ [(pt.va, (2, tyq ts pt.ty))]) (n + 1) (pck ts ws ah pt 1)) := by
  have HP := hid (fun (wv : Value) W (hW : Below w.heap.size w W) (hI : Ints W wv [0]) => pattern_any ts ws ah b mb Ks n hkn hk hka hty pt 2 [0] (.inr (.inl ⟨rfl, rfl⟩)) tv sv wv W (hs.later hW) (hS.later hW) hwz hI hn)
  obtain ⟨p, m, cap, rfl⟩ := rd_shape hS
  obtain ⟨tp, tn, tc, rfl⟩ := rd_shape hs.rt
  obtain ⟨va, ty, ⟨ck, csb, l, r⟩, pw, pn⟩ := pt
  simp only at HP ⊢
  have HT : Hid (Blk2 w ((w.alloc (.cells [.slice tp tn tc, .func (.func 111) #[] #[.pointer (some ⟨b, 0, none⟩)], .map (some mb)].toArray 163)).alloc (.cells [.string va, .string ty, .int .i64 ck, .slice p m cap, .int .i64 l.k, .int .i64 l.vk, .int .i64 l.vi, .string l.vt, .string l.va, .string l.fd, .int .i64 r.k, .int .i64 r.vk, .int .i64 r.vi, .string r.vt, .string r.va, .string r.fd, .int .i64 pw, .int .i64 pn].toArray 65)) [.slice tp tn tc, .func (.func 111) #[] #[.pointer (some ⟨b, 0, none⟩)], .map (some mb)] (ptC va ty ck (.slice p m cap) l r pw pn) 163 65) := Blk2.start w _ _ _ _
  have XP : Hid (((w.alloc (.cells [.slice tp tn tc, .func (.func 111) #[] #[.pointer (some ⟨b, 0, none⟩)], .map (some mb)].toArray 163)).alloc (.cells [.string va, .string ty, .int .i64 ck, .slice p m cap, .int .i64 l.k, .int .i64 l.vk, .int .i64 l.vi, .string l.vt, .string l.va, .string l.fd, .int .i64 r.k, .int .i64 r.vk, .int .i64 r.vi, .string r.vt, .string r.va, .string r.fd, .int .i64 pw, .int .i64 pn].toArray 65)).rangeAt (w.heap.size + 1) 0 (ptC va ty ck (.slice p m cap) l r pw pn)) := range_blk HT.out.b2
  clear hS hs hwz hkn hk hka hty
  go_enter Tryz.func105, Tryz.ntmps105
  go_wp2_with ((with_reducible show wpList _ _ _ (Oper.mk _ (.load _ _) _ _ _ _ :: _) _ _); refine wpList_load_mid (by rfl) 65 _ (by rfl) (w.heap.size + 1) 0 (by rfl) (ptC va ty ck (.slice p m cap) l r pw pn) _ XP.out Tryz.underlying65 rfl (by kernel_rfl) ?_)
  have hB : Below w.heap.size w (((w.alloc (.cells [.slice tp tn tc, .func (.func 111) #[] #[.pointer (some ⟨b, 0, none⟩)], .map (some mb)].toArray 163)).alloc (.cells [.string va, .string ty, .int .i64 ck, .slice p m cap, .int .i64 l.k, .int .i64 l.vk, .int .i64 l.vi, .string l.vt, .string l.va, .string l.fd, .int .i64 r.k, .int .i64 r.vk, .int .i64 r.vi, .string r.vt, .string r.va, .string r.fd, .int .i64 pw, .int .i64 pn].toArray 65)).alloc (.cells #[.int .i64 0] 3)) := HT.out.bel.alloc HT.out.bel.size _
  have hI : Ints (((w.alloc (.cells [.slice tp tn tc, .func (.func 111) #[] #[.pointer (some ⟨b, 0, none⟩)], .map (some mb)].toArray 163)).alloc (.cells [.string va, .string ty, .int .i64 ck, .slice p m cap, .int .i64 l.k, .int .i64 l.vk, .int .i64 l.vi, .string l.vt, .string l.va, .string l.fd, .int .i64 r.k, .int .i64 r.vk, .int .i64 r.vi, .string r.vt, .string r.va, .string r.fd, .int .i64 pw, .int .i64 pn].toArray 65)).alloc (.cells #[.int .i64 0] 3)) (.slice (some ⟨w.heap.size + 1 + 1, 0, none⟩) 1 1) [0] := ⟨_, 1, rfl, Nat.le_refl _, by decide, fun k hk => by
    have hk' : k < 1 := hk
    have e9 : ((w.alloc (.cells [.slice tp tn tc, .func (.func 111) #[] #[.pointer (some ⟨b, 0, none⟩)], .map (some mb)].toArray 163)).alloc (.cells [.string va, .string ty, .int .i64 ck, .slice p m cap, .int .i64 l.k, .int .i64 l.vk, .int .i64 l.vi, .string l.vt, .string l.va, .string l.fd, .int .i64 r.k, .int .i64 r.vk, .int .i64 r.vi, .string r.vt, .string r.va, .string r.fd, .int .i64 pw, .int .i64 pn].toArray 65)).heap.size = w.heap.size + 1 + 1 := by simp
    rw [← e9, cell_of_blk (heap_alloc_new _ _)]
    rcases (by omega : k = 0) with rfl <;> rfl⟩
  have X := HP.out _ _ hB hI
  have HB := hid hB
  clear hI hB
  refine X.mono ?_
  intro e w2 hr
  obtain ⟨rfl, hF, hK⟩ := hr.pq HB.out
  have HF := hid hF
  have HK := hid hK
  clear hF hK hr X
  go_wp2_with fail
  go_ret
  exact ⟨rfl, HF.out, HK.out⟩
end Go.Proofs.YthndlfdbmljkhaaGreatDoor.Chk
