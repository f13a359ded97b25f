/-
  Books of raw numbers may be: links, what is emitted, the whole. An option of a not, in raw numbers. Appends to rows of a rule of raw numbers.
-/
import Derived.Deep.CutRange
import Derived.Deep.CutBlock
import Derived.Deep.LoopGhost
import Derived.Test.YtdihklfaiiclgaaGreatDoorRe
namespace Go.Proofs.YtdihklfaiiclgaaGreatDoor.Chk
open Go.ChangeShapes Go.WideShapes Go.ChangeAt Go.RowKit Go.Maps
set_option linter.unusedVariables false
set_option linter.unusedSimpArgs false
set_option maxRecDepth 20000
theorem opRl_in (r : Int) : 1 ≤ opRl r ∧ opRl r ≤ 13 := by
  have := pkd_in r (m := 13) (by decide)
  unfold opRl; omega
theorem opLo0_in (l : Int) : 0 ≤ opLo0 l ∧ opLo0 l ≤ 5 := by
  have := pkd_in l (m := 6) (by decide)
  unfold opLo0; split <;> omega
theorem opLo_in (r l : Int) : 0 ≤ opLo r l ∧ opLo r l ≤ opLo0 l := by
  have := opLo0_in l
  unfold opLo; split <;> omega
theorem opHi_in (l h : Int) : opHi l h = -1 ∨ (opLo0 l ≤ opHi l h ∧ opHi l h ≤ 13) := by
  have := opLo0_in l
  have h9 := pkd_in h (m := 9) (by decide)
  unfold opHi; split <;> omega
theorem ock_ok {r lo hi : Int} (h1 : 1 ≤ r ∧ r ≤ 13) (h2 : 0 ≤ lo ∧ lo ≤ 5) (h3 : hi = -1 ∨ (lo ≤ hi ∧ hi ≤ 20)) : ock r lo hi = 0 := by
  unfold ock
  rw [if_neg (by omega), if_neg (by omega), if_neg (by omega)]
theorem ock_op (r l h : Int) : ock (opRl r) (opLo r l) (opHi l h) = 0 := by
  have := opLo0_in l
  have h1 := opLo_in r l
  have h2 := opHi_in l h
  exact ock_ok (opRl_in r) (by omega) (by omega)
theorem ock_bn (c : Cst) : ock (bnO c).r (bnO c).lo (bnO c).hi = 0 := by
  have := opLo0_in c.si
  have h1 := opLo_in (bRl c.wi - 1) c.si
  have h2 := opHi_in c.si c.co
  refine ock_ok (opRl_in _) (by unfold bnO; simp only; omega) ?_
  unfold bnO
  simp only
  split <;> omega
theorem ofs_S (b : Bd6) : ofs (opS b) = 0 ∧ 1 ≤ (opS b).length ∧ (opS b).length ≤ 6 := by
 have e1 : ock (opB b).r (opB b).lo (opB b).hi = 0 := ock_op _ _ _
 unfold opS
 split
 . refine ⟨?_, by simp, by simp⟩
   simp only [ofs, e1, ock_op]
   rfl
 . refine ⟨?_, by simp, by simp⟩
   simp only [ofs, e1]
   rfl
theorem alN_get : ∀ k, k ≤ 3 → ∀ j, j < k → (alN k).getD j (txt []) = vnm j := by
 intro k hk j hj
 rcases (by omega : k = 0 ∨ k = 1 ∨ k = 2 ∨ k = 3) with rfl | rfl | rfl | rfl
 . omega
 . obtain rfl : j = 0 := by omega
   rfl
 . rcases (by omega : j = 0 ∨ j = 1) with rfl | rfl <;> rfl
 . rcases (by omega : j = 0 ∨ j = 1 ∨ j = 2) with rfl | rfl | rfl <;> rfl
theorem pick_v {k : Nat} (hk : k ≤ 3) {i : Int} (h0 : 0 ≤ i) (h1 : i < (k : Int)) : pick (alN k) i = vnm i.toNat := alN_get k hk _ (by omega)
theorem seq_uv : ∀ i, i < 2 → ∀ j, j < 3 → seq (unm i) (vnm j) = false := by decide +kernel
theorem seq_vv : ∀ i, i < 3 → ∀ j, j < 3 → i ≠ j → seq (vnm i) (vnm j) = false := by decide +kernel
theorem unm_at : ∀ b, b ≤ 2 → ∀ j, j < b → ixq (fun a => seq a (unm j)) ((List.range b).map unm) 0 = (j : Int) := by decide +kernel
theorem lck_u (ws ns : List Cst) (kn : List ByteArray) (N : Nat) (hN0 : 1 ≤ N) (hN : N ≤ 3) (b : Nat) (hb : b ≤ 2) (i : Nat) (hi : i < b) : lck (pwWs ws N) (pwTs ns kn b) (pwU ns (alN N) i).l (pwU ns (alN N) i).r (pwU ns (alN N) i).o = 0 := by
  have hp := pkd_in (ns.getD i cst0).n (m := (N : Int)) (by omega)
  have e1 : (pwU ns (alN N) i).r = vnm (pkd (ns.getD i cst0).n (N : Int)).toNat := by unfold pwU; simp only; rw [len_alN, pick_v hN hp.1 hp.2]
  have e2 : (pwU ns (alN N) i).l = unm i := rfl
  have e3 : (pwU ns (alN N) i).o = [bnO (ns.getD i cst0)] := rfl
  rw [e1, e2, e3]
  generalize hq : (pkd (ns.getD i cst0).n (N : Int)).toNat = q
  have hqN : q < N := by omega
  have a1 : ptq (pwWs ws N) (vnm q) = (q : Int) := by rw [ptq_map, vas_pwWs]; exact vnm_at N hN q hqN
  have a2 : ptq (pwTs ns kn b) (unm i) = (i : Int) := by rw [ptq_map, vas_pwTs ns kn b hb]; exact unm_at b hb i hi
  unfold lck
  rw [a1, a2, seq_uv i (by omega) q (by omega), if_neg (by omega), if_neg (by rintro (c | c); cases c; omega), if_neg (by simp)]
  simp only [ofs, ock_bn]
  rfl
theorem lck_b (ws : List Cst) (ns : List Pt) (N : Nat) (hN0 : 2 ≤ N) (hN : N ≤ 3) (b : Bd6) : lck (pwWs ws N) ns (pwBl b (alN N)).l (pwBl b (alN N)).r (pwBl b (alN N)).o = 0 := by
 have hl := pkd_in b.l (m := (N : Int)) (by omega)
 have hr := pkd_in b.r (m := (N : Int) - 1) (by omega)
 have e1 : (pwBl b (alN N)).l = vnm (pkd b.l (N : Int)).toNat := by unfold pwBl; simp only; rw [len_alN, pick_v hN hl.1 hl.2]
 obtain ⟨q, hq⟩ : ∃ q, (pkd b.l (N : Int) + 1 + pkd b.r ((N : Int) - 1)) % (N : Int) = q := ⟨_, rfl⟩
 have hq0 : 0 ≤ q := by rw [← hq]; exact Int.emod_nonneg _ (by omega)
 have hq1 : q < (N : Int) := by rw [← hq]; exact Int.emod_lt_of_pos _ (by omega)
 have hne : q ≠ pkd b.l (N : Int) := by
  rcases (by omega : N = 2 ∨ N = 3) with rfl | rfl <;> simp at hq hl hr ⊢ <;> omega
 have e2 : (pwBl b (alN N)).r = vnm q.toNat := by unfold pwBl; simp only; rw [len_alN, hq, pick_v hN hq0 hq1]
 obtain ⟨o1, o2, o3⟩ := ofs_S b
 have e3 : (pwBl b (alN N)).o = opS b := rfl
 rw [e1, e2, e3]
 generalize hl' : (pkd b.l (N : Int)).toNat = l
 generalize hr' : q.toNat = r
 have hlN : l < N := by omega
 have hrN : r < N := by omega
 have a1 : ptq (pwWs ws N) (vnm l) = (l : Int) := by rw [ptq_map, vas_pwWs]; exact vnm_at N hN l hlN
 have a2 : ptq (pwWs ws N) (vnm r) = (r : Int) := by rw [ptq_map, vas_pwWs]; exact vnm_at N hN r hrN
 unfold lck
 rw [a1, a2, seq_vv l (by omega) r (by omega) (by omega), if_neg (by omega), if_neg (by rintro (c | c); cases c; omega), if_neg (by omega)]
 exact o1
theorem lfs_app (ws ns : List Pt) : ∀ (l r : List Lk), lfs 0 ws ns l = 0 → lfs 0 ws ns r = 0 → lfs 0 ws ns (l ++ r) = 0
 | [], r, _, h => h
 | x :: l, r, h, h2 => by
  rw [lfs] at h
  rw [List.cons_append, lfs]
  split at h
  . rename_i c; exact absurd h c
  . rename_i c
    rw [if_neg c]
    exact lfs_app ws ns l r h h2
theorem lfs_one {ws ns : List Pt} {x : Lk} (h : lck ws ns x.l x.r x.o = 0) : lfs 0 ws ns [x] = 0 := by
  rw [lfs, h]; rfl
theorem lfs_u (ws ns : List Cst) (kn : List ByteArray) (N : Nat) (hN0 : 1 ≤ N) (hN : N ≤ 3) (b : Nat) (hb : b ≤ 2) : ∀ k, k ≤ b → lfs 0 (pwWs ws N) (pwTs ns kn b) (pwUs ns (alN N) k) = 0
  | 0, _ => rfl
  | k + 1, h => by rw [pwUs]; exact lfs_app _ _ _ _ (lfs_u ws ns kn N hN0 hN b hb k (by omega)) (lfs_one (lck_u ws ns kn N hN0 hN b hb k (by omega)))
theorem lfs_b (ws : List Cst) (ns : List Pt) (bs : List Bd6) (N : Nat) (hN0 : 2 ≤ N) (hN : N ≤ 3) : ∀ k, lfs 0 (pwWs ws N) ns (pwBs bs (alN N) k) = 0
  | 0 => rfl
  | k + 1 => by rw [pwBs]; exact lfs_app _ _ _ _ (lfs_b ws ns bs N hN0 hN k) (lfs_one (lck_b ws ns N hN0 hN _))
theorem eck_pw (ws : List Cst) (e : Int) (N : Nat) (hN : N ≤ 3) : eck kts (pwWs ws N) (pwE e (pwK ws N)).ty (pwE e (pwK ws N)).v = 0 := by
 unfold pwE
 by_cases c : pkd e 3 = 0
 . rw [if_pos c]; unfold eck; simp only [emp0]; simp
 . rw [if_neg c]
   have h9 := pkd_in e (m := 9) (by decide)
   have ho : ∀ own, sdk kts (pwWs ws N) own (if (pwK ws N).length ≠ 0 ∧ pkd e 3 = 2 then ⟨3, 0, 0, txt [], (pwK ws N).getD 0 (txt []), txt [110]⟩ else numO (pkd e 9)) = (1, 0) := by
    intro own
    split
    . rename_i d
      obtain ⟨j, h1, h2, h3⟩ := pwK_mem ws N _ (getD_mem (l := pwK ws N) (i := 0) (d := txt []) (by omega))
      rw [h2]
      exact sdk_oth ws own N j hN h1 h3
    . exact sdk_num _ _ _ _ (by omega) (by omega)
   have hk : (if (pwK ws N).length ≠ 0 ∧ pkd e 3 = 2 then (⟨3, 0, 0, txt [], (pwK ws N).getD 0 (txt []), txt [110]⟩ : Opd) else numO (pkd e 9)).k ≠ 2 := by split <;> simp [numO]
   generalize (if (pwK ws N).length ≠ 0 ∧ pkd e 3 = 2 then (⟨3, 0, 0, txt [], (pwK ws N).getD 0 (txt []), txt [110]⟩ : Opd) else numO (pkd e 9)) = o at ho hk
   unfold eck
   simp only
   have q2 : tyq kts (txt [101]) = 4 := by kernel_rfl
   have q1 : emp (txt [101]) = false := by kernel_rfl
   rw [q1, q2, if_neg (by decide), if_neg (by decide), show (4 : Int).toNat = 4 from rfl, show (kts.getD 4 ⟨txt [], []⟩).f = [⟨txt [110], 1⟩] from rfl, if_neg (by simp)]
   simp only [evs, ho]
   rw [if_neg hk]
   simp
theorem pwB_in (p : Plt) : min p.t.length 2 + pwB p ≤ 6 := by unfold pwB; split <;> omega
theorem rck_pw {nm : ByteArray} (hn : frn nm = 0) (p : Plt) : rck kts (pwR nm p) = 0 := by
 have hL := pwL_in p.w
 have hz : szs (pwR nm p) := by
  have := pwB_in p
  unfold szs pwR
  simp only [len_pwWs, len_pwTs, len_pwMs, List.length_append, len_pwUs, len_pwBs]
  omega
 rw [rck_parts kts (pwR nm p) hn hz]
 have h1 : wfs 0 kts [] (pwR nm p).w = 0 := wfs_pw p.w (pwL p.w) hL.2 (pwL p.w) 0 (by omega)
 have h2 : nfs 0 kts (pwR nm p).w ((pwR nm p).w.map Pt.va) (pwR nm p).t = 0 := by
  show nfs 0 kts (pwWs p.w (pwL p.w)) ((pwWs p.w (pwL p.w)).map Pt.va) _ = 0
  rw [vas_pwWs]
  exact nfs_pw p.w p.t (pwL p.w) hL.2 _ (by omega)
 have h3 : mfs 0 kts (pwR nm p).w ((pwR nm p).w.map Pt.va ++ (pwR nm p).t.map Pt.va) (pwR nm p).m = 0 := by
  show mfs 0 kts (pwWs p.w (pwL p.w)) ((pwWs p.w (pwL p.w)).map Pt.va ++ (pwTs p.t (pwK p.w (pwL p.w)) (min p.t.length 2)).map Pt.va) _ = 0
  rw [vas_pwWs, vas_pwTs _ _ _ (by omega)]
  exact mfs_pw p.w p.m (pwL p.w) hL.2 _ (by omega) _ (by omega)
 have h4 : lfs 0 (pwR nm p).w (pwR nm p).t (pwR nm p).k = 0 := by
  refine lfs_app _ _ _ _ (lfs_u p.w p.t _ (pwL p.w) hL.1 hL.2 _ (by omega) _ (Nat.le_refl _)) ?_
  by_cases c : pwL p.w = 1
  . have : pwB p = 0 := by unfold pwB; rw [if_pos c]
    rw [this]
    rfl
  . exact lfs_b p.w _ p.b (pwL p.w) (by omega) hL.2 _
 rw [h1, h2, h3, h4]
 simp only [ne_eq, not_true_eq_false, if_false]
 exact eck_pw p.w p.e (pwL p.w) hL.2
theorem frn_r : ∀ i, i < 4 → frn (rnm i) = 0 := by decide +kernel
theorem nms_pwRs (l : List Plt) : ∀ k, (pwRs l k).map Rl.n = (List.range k).map rnm
  | 0 => rfl
  | k + 1 => by rw [pwRs, List.map_append, nms_pwRs l k, List.range_succ, List.map_append]; rfl
theorem twice_r : ∀ k, k ≤ 4 → (k < 4 → ((List.range k).map rnm).any (fun d => seq d (rnm k)) = false) ∧ ((List.range k).map rnm).any (fun d => seq d hrd.n) = false := by decide +kernel
theorem rks_pw (l : List Plt) (n : Nat) (hn : n ≤ 4) (r : List Rl) : ∀ m k, k + m = n → rks (rck kts) (pwRs l k) ((pwRs l n).drop k ++ r) = rks (rck kts) (pwRs l n) r
 | 0, k, h => by
  obtain rfl : k = n := by omega
  rw [List.drop_of_length_le (by rw [len_pwRs]; omega)]; rfl
 | m + 1, k, h => by
  have hg : ∀ n k, k < n → ∃ hk : k < (pwRs l n).length, (pwRs l n)[k] = pwR (rnm k) (l.getD k plt0) := by
   intro n
   induction n with
   | zero => intro k hk; omega
   | succ n ih =>
    intro k hk
    refine ⟨by rw [len_pwRs]; exact hk, ?_⟩
    by_cases c : k < n
    . obtain ⟨h1, h2⟩ := ih k c
      simp only [pwRs]
      rw [List.getElem_append_left h1]
      exact h2
    . obtain rfl : k = n := by omega
      simp only [pwRs]
      rw [List.getElem_append_right (by rw [len_pwRs]; omega)]
      simp [len_pwRs]
  obtain ⟨hk1, hk2⟩ := hg n k (by omega)
  have ht : (pwRs l k).any (fun d => seq d.n (pwR (rnm k) (l.getD k plt0)).n) = false := by
   have := (twice_r k (by omega)).1 (by omega)
   rw [← nms_pwRs l k, List.any_map] at this
   exact this
  rw [List.drop_eq_getElem_cons hk1, hk2, List.cons_append, rks, rck_pw (frn_r k (by omega)), ht, if_neg (by decide), if_neg (by decide)]
  exact rks_pw l n hn r m (k + 1) (by omega)
def quiet (x : Rl) : Prop := emp x.e.ty = true ∨ (x.e.ty = txt [101] ∧ spk x.w x.t x.m (txt [101]) = false)
theorem seq_ty : ∀ j, j < 4 → seq (tyN j) (txt [101]) = false := by decide +kernel
theorem tys_pwWs (ws : List Cst) : ∀ k, (pwWs ws k).any (fun p => seq p.ty (txt [101])) = false
  | 0 => rfl
  | k + 1 => by rw [pwWs, List.any_append, tys_pwWs ws k]; simp only [List.any_cons, List.any_nil, Bool.false_or, Bool.or_false]; exact seq_ty _ (pwA_in _)
theorem tys_pwTs (ws : List Cst) (kn : List ByteArray) : ∀ k, (pwTs ws kn k).any (fun p => seq p.ty (txt [101])) = false
  | 0 => rfl
  | k + 1 => by rw [pwTs, List.any_append, tys_pwTs ws kn k]; simp only [List.any_cons, List.any_nil, Bool.false_or, Bool.or_false]; exact seq_ty _ (pwA_in _)
theorem tys_pwMs (ws : List Cst) (kn : List ByteArray) : ∀ k, (pwMs ws kn k).any (fun m => seq m.p.ty (txt [101])) = false
  | 0 => rfl
  | k + 1 => by rw [pwMs, List.any_append, tys_pwMs ws kn k]; simp only [List.any_cons, List.any_nil, Bool.false_or, Bool.or_false]; exact seq_ty _ (pwA_in _)
theorem quiet_pw (nm : ByteArray) (p : Plt) : quiet (pwR nm p) := by
 unfold quiet
 by_cases c : pkd p.e 3 = 0
 . exact .inl (by show emp (pwE p.e _).ty = true; unfold pwE; rw [if_pos c]; exact emp0)
 . refine .inr ⟨by show (pwE p.e _).ty = _; unfold pwE; rw [if_neg c], ?_⟩
   unfold spk pwR
   simp only [tys_pwWs, tys_pwTs, tys_pwMs, Bool.or_self]
theorem quiet_hrd : quiet hrd := .inl emp0
theorem quiet_bk (l : List Plt) : ∀ x, x ∈ pwBk l → quiet x := by
 have h : ∀ k, ∀ x, x ∈ pwRs l k → quiet x := by
   intro k
   induction k with
   | zero => intro x hx; cases hx
   | succ k ih =>
    intro x hx
    rw [pwRs] at hx
    rcases List.mem_append.1 hx with hx | hx
    . exact ih x hx
    . rw [List.mem_singleton.1 hx]; exact quiet_pw _ _
 intro x hx
 unfold pwBk at hx
 rcases List.mem_append.1 hx with hx | hx
 . exact h _ x hx
 . rw [List.mem_singleton.1 hx]; exact quiet_hrd
theorem cmo_e {rs : List Rl} (h : ∀ x, x ∈ rs → quiet x) (t : ByteArray) : ∀ n, cmo rs t n (txt [101]) = false
 | 0 => rfl
 | n + 1 => by
  rw [cmo, List.any_eq_false]
  intro x hx
  rcases h x hx with c | ⟨c1, c2⟩
  . rw [c]; simp
  . rw [c2]; simp
theorem cmo_own {rs : List Rl} (h : ∀ x, x ∈ rs → quiet x) (t : ByteArray) (ht : seq (txt [101]) t = true → t = txt [101]) : ∀ n, cmo rs t n t = false
 | 0 => rfl
 | n + 1 => by
  rw [cmo, List.any_eq_false]
  intro x hx
  rcases h x hx with c | ⟨c1, c2⟩
  . rw [c]; simp
  . rw [c1, cmo_e h]
    cases hq : seq (txt [101]) t
    . simp
    . have := ht hq
      subst this
      rw [c2]; simp
theorem kts_e : ∀ t, t ∈ kts → seq (txt [101]) t.n = true → t.n = txt [101] := by
  intro t ht
  have : t = ⟨txt [97], [⟨txt [110], 1⟩]⟩ ∨ t = ⟨txt [98], [⟨txt [110], 1⟩, ⟨txt [115], 2⟩]⟩ ∨ t = ⟨txt [99], []⟩ ∨ t = ⟨txt [100], [⟨txt [110], 1⟩]⟩ ∨ t = ⟨txt [101], [⟨txt [110], 1⟩]⟩ := by simpa [kts] using ht
  rcases this with rfl | rfl | rfl | rfl | rfl
  . intro h; exact absurd h (by decide +kernel)
  . intro h; exact absurd h (by decide +kernel)
  . intro h; exact absurd h (by decide +kernel)
  . intro h; exact absurd h (by decide +kernel)
  . intro _; rfl
theorem cmo_kts {rs : List Rl} (h : ∀ x, x ∈ rs → quiet x) (n : Nat) : kts.any (fun t => cmo rs t.n n t.n) = false := by
  rw [List.any_eq_false]
  intro t ht
  rw [cmo_own h t.n (kts_e t ht)]
  simp
theorem len_bk (l : List Plt) : (pwBk l).length = min l.length 4 + 1 := by unfold pwBk; rw [List.length_append, len_pwRs]; rfl
theorem rks_bk (l : List Plt) : rks (rck kts) [] (pwBk l) = 0 := by
 have h := rks_pw l (min l.length 4) (by omega) [hrd] (min l.length 4) 0 (by omega)
 unfold pwBk
 rw [List.drop_zero] at h
 refine h.trans ?_
 have ht : (pwRs l (min l.length 4)).any (fun d => seq d.n hrd.n) = false := by
  have := (twice_r (min l.length 4) (by omega)).2
  rw [← nms_pwRs l, List.any_map] at this
  exact this
 rw [rks, ht, show rck kts hrd = 0 from by kernel_rfl, if_neg (by decide), if_neg (by decide), rks]
theorem bok_pw (l : List Plt) : bok kts (pwBk l) = 0 := by
  unfold bok bkf
  rw [len_bk, rks_bk, if_neg (by rw [show kts.length = 5 from rfl]; omega), show tks [] kts = 0 from by kernel_rfl, cmo_kts (quiet_bk l)]
  simp
theorem sz_nm : (∀ j, (vnm j).size ≤ maxLen) ∧ (∀ j, (unm j).size ≤ maxLen) ∧ (txt []).size ≤ maxLen := by
 refine ⟨fun j => ?_, fun j => ?_, by decide⟩
 . unfold vnm; split
   . decide
   . split <;> decide
 . unfold unm; split <;> decide
theorem wsz_cmp {k : Int} {a b : Opd} (h1 : a.va.size ≤ maxLen) (h2 : b.va.size ≤ maxLen) : Wsz (cmpC k a b) := .mk _ [] rfl h1 h2 (fun x hx => by cases hx)
theorem wsz_grp {k : Int} {l : List Cn} (h : ∀ x, x ∈ l → Wsz x) : Wsz (grpC k l) := .mk _ l rfl (by show (txt []).size ≤ maxLen; decide) (by show (txt []).size ≤ maxLen; decide) h
theorem wsz_0 : Wsz cn0 := .mk _ [] rfl (by decide) (by decide) (fun x hx => by cases hx)
theorem wsz_wh (co at_ : Nat) (k : Int) (ot : Opd) (h : ot.va.size ≤ maxLen) : Wsz (whC co at_ k ot) := by
 have hn : nO.va.size ≤ maxLen := by decide
 have hk : ∀ q, (numO q).va.size ≤ maxLen := fun q => by show (txt []).size ≤ maxLen; decide
 unfold whC
 split
 . exact wsz_0
 . split
   . exact wsz_cmp (hk _) hn
   . split
     . exact wsz_cmp hn h
     . split
       . exact wsz_cmp hn h
       . split
         . exact wsz_grp (fun x hx => by
             rcases List.mem_cons.1 hx with rfl | hx
             . exact wsz_cmp hn (hk _)
             . rw [List.mem_singleton.1 hx]; exact wsz_cmp hn (hk _))
         . split
           . exact wsz_grp (fun x hx => by
               rcases List.mem_cons.1 hx with rfl | hx
               . exact wsz_cmp h hn
               . rw [List.mem_singleton.1 hx]
                 exact wsz_grp (fun y hy => by rw [List.mem_singleton.1 hy]; exact wsz_cmp hn (hk _)))
           . split
             . split
               . exact wsz_cmp (by show (txt []).size ≤ maxLen; decide) (by show (txt []).size ≤ maxLen; decide)
               . exact wsz_cmp hn h
             . exact wsz_0
theorem sz_getD {l : List ByteArray} (h : ∀ x, x ∈ l → x.size ≤ maxLen) (i : Nat) : (l.getD i (txt [])).size ≤ maxLen := by
  by_cases c : i < l.length
  . exact h _ (getD_mem c)
  . rw [List.getD_eq_getElem?_getD, List.getElem?_eq_none (by omega)]; exact sz_nm.2.2
theorem sz_K (ws : List Cst) (k : Nat) : ∀ x, x ∈ pwK ws k → x.size ≤ maxLen := fun x hx => by
  obtain ⟨j, _, rfl, _⟩ := pwK_mem ws k x hx
  exact sz_nm.1 j
theorem sz_al (k : Nat) : ∀ x, x ∈ alN k → x.size ≤ maxLen := by
 induction k with
 | zero => intro x hx; cases hx
 | succ k ih =>
  intro x hx
  rw [alN] at hx
  rcases List.mem_append.1 hx with hx | hx
  . exact ih x hx
  . rw [List.mem_singleton.1 hx]; exact sz_nm.1 k
theorem wsz_pw (c : Cst) (ws : List Cst) (k : Nat) : Wsz (pwC c (pwK ws k)) := by
  refine wsz_wh _ _ _ _ ?_
  unfold othO
  split
  . exact sz_nm.2.2
  . exact sz_getD (sz_K ws k) _
theorem szr_pw (nm : ByteArray) (p : Plt) : Szr (pwR nm p) := by
 refine ⟨?_, ?_, ?_, ?_, ?_⟩
 . show ∀ t, t ∈ pwWs p.w (pwL p.w) → Wsz t.c
   generalize pwL p.w = k
   induction k with
   | zero => intro t ht; cases ht
   | succ k ih =>
     intro t ht
     rw [pwWs] at ht
     rcases List.mem_append.1 ht with ht | ht
     . exact ih t ht
     . rw [List.mem_singleton.1 ht]; exact wsz_pw _ _ _
 . show ∀ t, t ∈ pwTs p.t (pwK p.w (pwL p.w)) (min p.t.length 2) → Wsz t.c
   generalize min p.t.length 2 = k
   induction k with
   | zero => intro t ht; cases ht
   | succ k ih =>
     intro t ht
     rw [pwTs] at ht
     rcases List.mem_append.1 ht with ht | ht
     . exact ih t ht
     . rw [List.mem_singleton.1 ht]; exact wsz_pw _ _ _
 . show ∀ t, t ∈ pwMs p.m (pwK p.w (pwL p.w)) (min p.m.length 2) → Wsz t.p.c
   generalize min p.m.length 2 = k
   induction k with
   | zero => intro t ht; cases ht
   | succ k ih =>
     intro t ht
     rw [pwMs] at ht
     rcases List.mem_append.1 ht with ht | ht
     . exact ih t ht
     . rw [List.mem_singleton.1 ht]; exact wsz_pw _ _ _
 . show ∀ x, x ∈ pwUs p.t (alN (pwL p.w)) (min p.t.length 2) ++ pwBs p.b (alN (pwL p.w)) (pwB p) → x.l.size ≤ maxLen ∧ x.r.size ≤ maxLen
   intro x hx
   rcases List.mem_append.1 hx with hx | hx
   . revert hx
     generalize min p.t.length 2 = k
     induction k with
     | zero => intro ht; cases ht
     | succ k ih =>
       intro ht
       rw [pwUs] at ht
       rcases List.mem_append.1 ht with ht | ht
       . exact ih ht
       . rw [List.mem_singleton.1 ht]; exact ⟨sz_nm.2.1 k, sz_getD (sz_al _) _⟩
   . revert hx
     generalize pwB p = k
     induction k with
     | zero => intro ht; cases ht
     | succ k ih =>
       intro ht
       rw [pwBs] at ht
       rcases List.mem_append.1 ht with ht | ht
       . exact ih ht
       . rw [List.mem_singleton.1 ht]; exact ⟨sz_getD (sz_al _) _, sz_getD (sz_al _) _⟩
 . show ∀ o, o ∈ (pwE p.e (pwK p.w (pwL p.w))).v → o.va.size ≤ maxLen
   intro o ho
   unfold pwE at ho
   split at ho
   . cases ho
   . rw [List.mem_singleton.1 ho]
     split
     . exact sz_getD (sz_K _ _) _
     . exact sz_nm.2.2
theorem szr_hrd : Szr hrd := by
 refine ⟨?_, ?_, ?_, ?_, ?_⟩
 . intro t ht
   rw [show hrd.w = [⟨txt [120], txt [101], cmpC 6 (numO 1) nO, 1, 3⟩] from rfl] at ht
   rw [List.mem_singleton.1 ht]
   exact wsz_cmp (by decide) (by decide)
 . intro t ht; cases ht
 . intro t ht; cases ht
 . intro t ht; cases ht
 . intro t ht; cases ht
theorem szr_bk (l : List Plt) : ∀ x, x ∈ pwBk l → Szr x := by
 have h : ∀ k, ∀ x, x ∈ pwRs l k → Szr x := by
   intro k
   induction k with
   | zero => intro x hx; cases hx
   | succ k ih =>
    intro x hx
    rw [pwRs] at hx
    rcases List.mem_append.1 hx with hx | hx
    . exact ih x hx
    . rw [List.mem_singleton.1 hx]; exact szr_pw _ _
 intro x hx
 unfold pwBk at hx
 rcases List.mem_append.1 hx with hx | hx
 . exact h _ x hx
 . rw [List.mem_singleton.1 hx]; exact szr_hrd
theorem bRl_at : ∀ q, q < 8 → (#[Value.int .i64 1, .int .i64 9, .int .i64 3, .int .i64 5, .int .i64 8, .int .i64 13, .int .i64 8, .int .i64 2] : Array Value)[q]? = some (.int .i64 (([1, 9, 3, 5, 8, 13, 8, 2] : List Int).getD q 0)) := fun q hq => by
  rcases (by omega : q = 0 ∨ q = 1 ∨ q = 2 ∨ q = 3 ∨ q = 4 ∨ q = 5 ∨ q = 6 ∨ q = 7) with rfl | rfl | rfl | rfl | rfl | rfl | rfl | rfl <;> rfl
theorem bRl_in : ∀ q, q < 8 → 1 ≤ ([1, 9, 3, 5, 8, 13, 8, 2] : List Int).getD q 0 ∧ ([1, 9, 3, 5, 8, 13, 8, 2] : List Int).getD q 0 ≤ 13 := by decide
set_option maxHeartbeats 16000000 in
theorem bounded_any (c : Cst) (hc : c.ok) (w : World) : Calls Tryz.prog 28 #[.agg #[.int .i64 c.ty, .int .i64 c.co, .int .i64 c.n, .int .i64 c.wi, .int .i64 c.si]] w fun e w' => e = .returned (.agg #[.int .i64 (bnO c).r, .int .i64 (bnO c).lo, .int .i64 (bnO c).hi]) ∧ Below w.heap.size w w' := by
 have hq8 := pkd_in c.wi (m := 8) (by decide)
 obtain ⟨q, hq⟩ : ∃ q : Nat, pkd c.wi 8 = (q : Int) := ⟨(pkd c.wi 8).toNat, by omega⟩
 have hql : q < 8 := by omega
 have hx0 : bRl c.wi = ([1, 9, 3, 5, 8, 13, 8, 2] : List Int).getD q 0 := by unfold bRl; rw [hq, Int.toNat_natCast]
 have hxb := bRl_in q hql
 have hxa := bRl_at q hql
 obtain ⟨x5, hx5⟩ : ∃ x, ([1, 9, 3, 5, 8, 13, 8, 2] : List Int).getD q 0 = x := ⟨_, rfl⟩
 rw [hx5] at hx0 hxb hxa
 have HX5 := hid hxa
 obtain ⟨rr, hrr⟩ : ∃ x, x5 - 1 = x := ⟨_, rfl⟩
 have HPW := hid (fun W => picked_any c.wi 8 W hc.wi.1 hc.wi.2 (by decide) (by decide))
 rw [hq] at HPW
 have HOP := hid (fun W => option_any rr c.si c.co W (by omega) (by omega) hc.si.1 hc.si.2 hc.co.1 hc.co.2)
 have hlo := opLo_in rr c.si
 have hlo0 := opLo0_in c.si
 unfold bnO
 rw [hx0, hrr]
 simp only
 obtain ⟨r0, hr0⟩ : ∃ x, opRl rr = x := ⟨_, rfl⟩
 obtain ⟨lo, hl0⟩ : ∃ x, opLo rr c.si = x := ⟨_, rfl⟩
 obtain ⟨hi, hh0⟩ : ∃ x, opHi c.si c.co = x := ⟨_, rfl⟩
 rw [hr0, hl0, hh0] at HOP
 rw [hl0] at hlo
 rw [hr0, hl0, hh0]
 obtain ⟨hf, hhf⟩ : ∃ x, (if hi < 0 then lo + 5 else hi) = x := ⟨_, rfl⟩
 have HHF := hid hhf
 rw [hhf]
 have m1 : IntKind.i64.wrap (x5 - 1) = rr := by rw [← hrr]; go_unwrap
 have HM5 : Hid (RowKit.wrap64 (lo + 5) = lo + 5) := by show _ = _; unfold RowKit.wrap64; omega
 have hB0 := bxs2 w [.int .i64 c.ty, .int .i64 c.co, .int .i64 c.n, .int .i64 c.wi, .int .i64 c.si] [.int .i64 0, .int .i64 0, .int .i64 0] 97 101
 have HB := hid (hp2 hB0)
 have HBD := hid ((hp2 hB0).next (Below.drew (Below.refl _ _)))
 have i1 : (0 : Int) ≤ (q : Int) := by omega
 have i2 : (q : Int) < 8 := by omega
 clear hq8 hq hx0 hxb hxa hx5 hrr hlo hlo0 hr0 hl0 hh0 hB0 hc hhf
 go_enter Tryz.func28, Tryz.ntmps28
 go_wp2_with fail
 refine wp_region_last (by kernel_rfl) (fun i w9 v => ([(fun w9 v => ∃ (b : Nat), v = .slice (some ⟨b, 0, none⟩) 8 8 ∧ w9.heap[b]? = some (.cells #[.int .i64 1, .int .i64 9, .int .i64 3, .int .i64 5, .int .i64 8, .int .i64 13, .int .i64 8, .int .i64 2] 3 (0, 0))), (fun w9 v => v = .pointer (some ⟨w.heap.size, 3, none⟩)), (fun w9 v => v = .int .i64 c.wi), (fun w9 v => v = .int .i64 (q : Nat)), (fun w9 v => ∃ (b : Nat), v = .pointer (some ⟨b, q, none⟩) ∧ w9.heap[b]? = some (.cells #[.int .i64 1, .int .i64 9, .int .i64 3, .int .i64 5, .int .i64 8, .int .i64 13, .int .i64 8, .int .i64 2] 3 (0, 0))), (fun w9 v => v = .int .i64 x5), (fun w9 v => v = .int .i64 rr), (fun w9 v => v = .pointer (some ⟨w.heap.size, 4, none⟩)), (fun w9 v => v = .int .i64 c.si), (fun w9 v => v = .pointer (some ⟨w.heap.size, 1, none⟩)), (fun w9 v => v = .int .i64 c.co), (fun w9 v => v = .agg #[.int .i64 r0, .int .i64 lo, .int .i64 hi]), (fun w9 v => ∃ (b : Nat), v = .pointer (some ⟨b, 0, none⟩) ∧ w9.heap[b]? = some (.cells #[.int .i64 0, .int .i64 0, .int .i64 0] 101 (0, 0)) ∧ w.heap.size + 1 < b)] : List (World → Value → Prop)).getD i (fun _ _ => True) w9 v) (fun W => Hp w W [(w.heap.size, [.int .i64 c.ty, .int .i64 c.co, .int .i64 c.n, .int .i64 c.wi, .int .i64 c.si], 97), (w.heap.size + 1, [.int .i64 0, .int .i64 0, .int .i64 0], 101)]) 24 13 rfl rfl (by kernel_rfl) (by kernel_rfl) (fun W W' => Below W.heap.size W W') ?hmon (HBD.out) (AllOps.cons ?o0 (AllOps.cons ?o1 (AllOps.cons ?o2 (AllOps.cons ?o3 (AllOps.cons ?o4 (AllOps.cons ?o5 (AllOps.cons ?o6 (AllOps.cons ?o7 (AllOps.cons ?o8 (AllOps.cons ?o9 (AllOps.cons ?o10 (AllOps.cons ?o11 (AllOps.cons ?o12 AllOps.nil))))))))))))) ?hend
 case hmon =>
  intro q W W' v hb h
  rcases q with _ | _ | _ | _ | _ | _ | _ | _ | _ | _ | _ | _ | _ | q
  . obtain ⟨b, e, h1⟩ := h; exact ⟨b, e, (hb.block _ (blk_lt h1)).trans h1⟩
  . exact h
  . exact h
  . exact h
  . obtain ⟨b, e, h1⟩ := h; exact ⟨b, e, (hb.block _ (blk_lt h1)).trans h1⟩
  . exact h
  . exact h
  . exact h
  . exact h
  . exact h
  . exact h
  . exact h
  . obtain ⟨b, e, h1, h2⟩ := h; exact ⟨b, e, (hb.block _ (blk_lt h1)).trans h1, h2⟩
  . exact h
 case o0 =>
  intro a W hB hd ho
  have hal : Below W.heap.size W (W.alloc (.cells #[.int .i64 1, .int .i64 9, .int .i64 3, .int .i64 5, .int .i64 8, .int .i64 13, .int .i64 8, .int .i64 2] 3)) := (Below.refl _ _).alloc (Nat.le_refl _) _
  refine op_bs 141 8 _ rfl #[(0, .int .i64 1), (1, .int .i64 9), (2, .int .i64 3), (3, .int .i64 5), (4, .int .i64 8), (5, .int .i64 13), (6, .int .i64 8), (7, .int .i64 2)] (by simp [ev_c]) (.slice (some ⟨W.heap.size, 0, none⟩) 8 8) (W.alloc (.cells #[.int .i64 1, .int .i64 9, .int .i64 3, .int .i64 5, .int .i64 8, .int .i64 13, .int .i64 8, .int .i64 2] 3)) (by kernel_rfl) ⟨_, rfl, ⟨W.heap.size, rfl, heap_alloc_new _ _⟩, hB.next hal, hal⟩
 case o1 =>
  intro a W hB hd ho
  have e1 : a.eval (.tmp 1) = .pointer (some ⟨w.heap.size, 0, none⟩) := ho 1 (by kernel_rfl)
  exact op_val (.pointer (some ⟨w.heap.size, 3, none⟩)) (by unfold execOp; simp only [ev_c, e1]; go_simp) ⟨_, rfl, rfl, hB, Below.refl _ _⟩
 case o2 =>
  intro a W hB hd ho
  have e5 : a.eval (.tmp 5) = .pointer (some ⟨w.heap.size, 3, none⟩) := hd 1 5 (by kernel_rfl)
  have c9 : W.cell? ⟨w.heap.size, 3, none⟩ = some (.int .i64 c.wi) := hB.c 0 (by simp) 3
  exact op_val (.int .i64 c.wi) (by unfold execOp; simp only [ev_c, e5]; go_simp) ⟨_, rfl, rfl, hB, Below.refl _ _⟩
 case o3 =>
  intro a W hB hd ho
  have e6 : a.eval (.tmp 6) = .int .i64 c.wi := hd 2 6 (by kernel_rfl)
  refine op_cl 7 ent_pik _ _ rfl #[.int .i64 c.wi, .int .i64 8] (by simp [ev_c, e6]) _ (HPW.out W) ?_
  rintro e W' ⟨rfl, rfl⟩
  exact ⟨_, rfl, _, rfl, rfl, hB, Below.refl _ _⟩
 case o4 =>
  intro a W hB hd ho
  obtain ⟨b, e4, h1⟩ : ∃ (b : Nat), a.eval (.tmp 4) = .slice (some ⟨b, 0, none⟩) 8 8 ∧ W.heap[b]? = some (.cells #[.int .i64 1, .int .i64 9, .int .i64 3, .int .i64 5, .int .i64 8, .int .i64 13, .int .i64 8, .int .i64 2] 3 (0, 0)) := hd 0 4 (by kernel_rfl)
  have e7 : a.eval (.tmp 7) = .int .i64 (q : Nat) := hd 3 7 (by kernel_rfl)
  exact op_val (.pointer (some ⟨b, q, none⟩)) (by unfold execOp; simp only [ev_c, e4, e7]; go_simp) ⟨_, rfl, ⟨b, rfl, h1⟩, hB, Below.refl _ _⟩
 case o5 =>
  intro a W hB hd ho
  obtain ⟨b, e8, h1⟩ : ∃ (b : Nat), a.eval (.tmp 8) = .pointer (some ⟨b, q, none⟩) ∧ W.heap[b]? = some (.cells #[.int .i64 1, .int .i64 9, .int .i64 3, .int .i64 5, .int .i64 8, .int .i64 13, .int .i64 8, .int .i64 2] 3 (0, 0)) := hd 4 8 (by kernel_rfl)
  have c9 : W.cell? ⟨b, q, none⟩ = some (.int .i64 x5) := by
    rw [cell_of_blk h1]
    exact HX5.out
  exact op_val (.int .i64 x5) (by unfold execOp; simp only [ev_c, e8]; go_simp) ⟨_, rfl, rfl, hB, Below.refl _ _⟩
 case o6 =>
  intro a W hB hd ho
  have e9 : a.eval (.tmp 9) = .int .i64 x5 := hd 5 9 (by kernel_rfl)
  exact op_val (.int .i64 rr) (by unfold execOp; simp only [ev_c, e9]; go_simp) ⟨_, rfl, rfl, hB, Below.refl _ _⟩
 case o7 =>
  intro a W hB hd ho
  have e1 : a.eval (.tmp 1) = .pointer (some ⟨w.heap.size, 0, none⟩) := ho 1 (by kernel_rfl)
  exact op_val (.pointer (some ⟨w.heap.size, 4, none⟩)) (by unfold execOp; simp only [ev_c, e1]; go_simp) ⟨_, rfl, rfl, hB, Below.refl _ _⟩
 case o8 =>
  intro a W hB hd ho
  have e11 : a.eval (.tmp 11) = .pointer (some ⟨w.heap.size, 4, none⟩) := hd 7 11 (by kernel_rfl)
  have c9 : W.cell? ⟨w.heap.size, 4, none⟩ = some (.int .i64 c.si) := hB.c 0 (by simp) 4
  exact op_val (.int .i64 c.si) (by unfold execOp; simp only [ev_c, e11]; go_simp) ⟨_, rfl, rfl, hB, Below.refl _ _⟩
 case o9 =>
  intro a W hB hd ho
  have e1 : a.eval (.tmp 1) = .pointer (some ⟨w.heap.size, 0, none⟩) := ho 1 (by kernel_rfl)
  exact op_val (.pointer (some ⟨w.heap.size, 1, none⟩)) (by unfold execOp; simp only [ev_c, e1]; go_simp) ⟨_, rfl, rfl, hB, Below.refl _ _⟩
 case o10 =>
  intro a W hB hd ho
  have e13 : a.eval (.tmp 13) = .pointer (some ⟨w.heap.size, 1, none⟩) := hd 9 13 (by kernel_rfl)
  have c9 : W.cell? ⟨w.heap.size, 1, none⟩ = some (.int .i64 c.co) := hB.c 0 (by simp) 1
  exact op_val (.int .i64 c.co) (by unfold execOp; simp only [ev_c, e13]; go_simp) ⟨_, rfl, rfl, hB, Below.refl _ _⟩
 case o11 =>
  intro a W hB hd ho
  have e10 : a.eval (.tmp 10) = .int .i64 rr := hd 6 10 (by kernel_rfl)
  have e12 : a.eval (.tmp 12) = .int .i64 c.si := hd 8 12 (by kernel_rfl)
  have e14 : a.eval (.tmp 14) = .int .i64 c.co := hd 10 14 (by kernel_rfl)
  refine op_cl 29 ent_opt _ _ rfl #[.int .i64 rr, .int .i64 c.si, .int .i64 c.co] (by simp [e10, e12, e14]) _ (HOP.out W) ?_
  rintro e W' ⟨rfl, hb⟩
  exact ⟨_, rfl, _, rfl, rfl, hB.next hb, hb⟩
 case o12 =>
  intro a W hB hd ho
  have hal : Below W.heap.size W (W.alloc (.cells #[.int .i64 0, .int .i64 0, .int .i64 0] 101)) := (Below.refl _ _).alloc (Nat.le_refl _) _
  exact op_al 101 rfl [.int .i64 0, .int .i64 0, .int .i64 0] (by kernel_rfl) ⟨_, rfl, ⟨W.heap.size, rfl, heap_alloc_new _ _, by have := blk_lt (hB.b 1 (by simp)); simpa using this⟩, hB.next hal, hal⟩
 case hend =>
  intro vs W o ho hB hT
  have e1 : vs 1 = .pointer (some ⟨w.heap.size, 3, none⟩) := hT 1 (by decide)
  have e2 : vs 2 = .int .i64 c.wi := hT 2 (by decide)
  have e3 : vs 3 = .int .i64 (q : Nat) := hT 3 (by decide)
  have e5 : vs 5 = .int .i64 x5 := hT 5 (by decide)
  have e6 : vs 6 = .int .i64 rr := hT 6 (by decide)
  have e7 : vs 7 = .pointer (some ⟨w.heap.size, 4, none⟩) := hT 7 (by decide)
  have e8 : vs 8 = .int .i64 c.si := hT 8 (by decide)
  have e9 : vs 9 = .pointer (some ⟨w.heap.size, 1, none⟩) := hT 9 (by decide)
  have e10 : vs 10 = .int .i64 c.co := hT 10 (by decide)
  have e11 : vs 11 = .agg #[.int .i64 r0, .int .i64 lo, .int .i64 hi] := hT 11 (by decide)
  obtain ⟨b, e12, h1, h2⟩ : ∃ (b : Nat), vs 12 = .pointer (some ⟨b, 0, none⟩) ∧ W.heap[b]? = some (.cells #[.int .i64 0, .int .i64 0, .int .i64 0] 101 (0, 0)) ∧ w.heap.size + 1 < b := hT 12 (by decide)
  cases (show some _ = some o from ho)
  simp only [List.toList_toArray, List.take_succ_cons, List.take_zero, fill, if_true, Act.put, List.setIfInBounds_toArray, List.set_cons_zero, List.set_cons_succ, e1, e2, e3, e5, e6, e7, e8, e9, e10, e11, e12]
  refine op_st 101 _ _ rfl b 0 [.int .i64 0, .int .i64 0, .int .i64 0] 101 (.agg #[.int .i64 r0, .int .i64 lo, .int .i64 hi]) [.int .i64 r0, .int .i64 lo, .int .i64 hi] (by rfl) (by rfl) (by rfl) h1 (by simp) (by kernel_rfl) (by rfl) ?_
  intro w5 hblk hfr
  have HP5 : Hid (Hp w w5 [(w.heap.size, [.int .i64 c.ty, .int .i64 c.co, .int .i64 c.n, .int .i64 c.wi, .int .i64 c.si], 97), (w.heap.size + 1, [.int .i64 0, .int .i64 0, .int .i64 0], 101)]) := hB.fr hfr (by omega) (fun i hi => by rcases i with _ | _ | i; (show w.heap.size ≠ b; omega); (show w.heap.size + 1 ≠ b; omega); exact absurd hi (by simp))
  have HW5 : Hid (w5.heap[b]? = some (.cells #[.int .i64 r0, .int .i64 lo, .int .i64 hi] 101 (0, 0))) := hblk
  have HBB := hid h2
  generalize vs 0 = v0
  generalize vs 4 = v4
  clear hblk hfr h1 h2 hB hT e1 e2 e3 e5 e6 e7 e8 e9 e10 e11 e12 vs
  have f1 : w5.cell? ⟨b, 1, none⟩ = some (.int .i64 lo) := cell_of_blk HW5.out 1
  have f2 : w5.cell? ⟨b, 2, none⟩ = some (.int .i64 hi) := cell_of_blk HW5.out 2
  by_cases hh : hi < 0
  . have g1 : decide (hi < 0) = true := by simpa using hh
    have HF : Hid (hf = lo + 5) := by show _ = _; rw [← HHF.out, if_pos hh]
    clear hh
    go_wp2_with (first
     | ((with_reducible show wpList _ _ _ (Oper.mk _ (.store 3 _ _) _ _ _ _ :: _) _ _); refine wp_st (by rfl) 3 _ _ (by rfl) b 2 [.int .i64 r0, .int .i64 lo, .int .i64 hi] 101 (.int .i64 (RowKit.wrap64 (lo + 5))) [.int .i64 (RowKit.wrap64 (lo + 5))] (by rfl) (by rfl) (by rfl) HW5.out (by simp) (by kernel_rfl) (by rfl) ?_; intro w6 hblk hfr; rw [HM5.out] at hblk; have HW6 : Hid (w6.heap[b]? = some (.cells #[.int .i64 r0, .int .i64 lo, .int .i64 (lo + 5)] 101 (0, 0))) := hblk; have HP6 : Hid (Hp w w6 [(w.heap.size, [.int .i64 c.ty, .int .i64 c.co, .int .i64 c.n, .int .i64 c.wi, .int .i64 c.si], 97), (w.heap.size + 1, [.int .i64 0, .int .i64 0, .int .i64 0], 101)]) := HP5.out.fr hfr (by have := HBB.out; omega) (fun i hi => by have := HBB.out; rcases i with _ | _ | i; (show w.heap.size ≠ b; omega); (show w.heap.size + 1 ≠ b; omega); exact absurd hi (by simp)); clear hblk hfr)
     | ((with_reducible show wpList _ _ _ (Oper.mk _ (.load 101 _) _ _ _ _ :: _) _ _); refine wpList_load_mid (by rfl) 101 _ (by rfl) b 0 (by rfl) [.int .i64 r0, .int .i64 lo, .int .i64 (lo + 5)] _ (range_blk HW6.out) Tryz.underlying101 rfl (by kernel_rfl) ?_)
     | ((with_reducible show wpList _ _ _ (Oper.mk _ (.store 101 _ _) _ _ _ _ :: _) _ _); refine wp_st (by rfl) 101 _ _ (by rfl) (w.heap.size + 1) 0 [.int .i64 0, .int .i64 0, .int .i64 0] 101 (.agg #[.int .i64 r0, .int .i64 lo, .int .i64 (lo + 5)]) [.int .i64 r0, .int .i64 lo, .int .i64 (lo + 5)] (by rfl) (by rfl) (by rfl) (HP6.out.b 1 (by simp)) (by simp) (by kernel_rfl) (by rfl) ?_; intro w7 hblk hfr; have HW7 := hid hblk; have HBE : Hid (Below w.heap.size w w7) := below_fr HP6.out.bel hfr (by omega); clear hblk hfr))
    exact ret_loc (w.heap.size + 1) [.int .i64 r0, .int .i64 lo, .int .i64 (lo + 5)] 101 _ HW7.out rfl rfl (by rfl) Tryz.underlying101 rfl (by kernel_rfl) ⟨by rw [HF.out], HBE.out⟩
  . have g1 : decide (hi < 0) = false := by simpa using hh
    have HF : Hid (hf = hi) := by show _ = _; rw [← HHF.out, if_neg hh]
    clear hh
    go_wp2_with (first
     | ((with_reducible show wpList _ _ _ (Oper.mk _ (.load 101 _) _ _ _ _ :: _) _ _); refine wpList_load_mid (by rfl) 101 _ (by rfl) b 0 (by rfl) [.int .i64 r0, .int .i64 lo, .int .i64 hi] _ (range_blk HW5.out) Tryz.underlying101 rfl (by kernel_rfl) ?_)
     | ((with_reducible show wpList _ _ _ (Oper.mk _ (.store 101 _ _) _ _ _ _ :: _) _ _); refine wp_st (by rfl) 101 _ _ (by rfl) (w.heap.size + 1) 0 [.int .i64 0, .int .i64 0, .int .i64 0] 101 (.agg #[.int .i64 r0, .int .i64 lo, .int .i64 hi]) [.int .i64 r0, .int .i64 lo, .int .i64 hi] (by rfl) (by rfl) (by rfl) (HP5.out.b 1 (by simp)) (by simp) (by kernel_rfl) (by rfl) ?_; intro w7 hblk hfr; have HW7 := hid hblk; have HBE : Hid (Below w.heap.size w w7) := below_fr HP5.out.bel hfr (by omega); clear hblk hfr))
    exact ret_loc (w.heap.size + 1) [.int .i64 r0, .int .i64 lo, .int .i64 hi] 101 _ HW7.out rfl rfl (by rfl) Tryz.underlying101 rfl (by kernel_rfl) ⟨by rw [HF.out], HBE.out⟩
theorem wp_appT {P : Program} {ops : Array Oper} {rest : List Oper} {o : Oper} {a : Act} {W : World} {Q : Exit → Act → World → Prop} (hgd : o.guard = none) (s x : Operand) (T : TypeId) (ho : o.op = .call { callee := .builtin .append, args := #[s, x], argTypes := #[T, T] }) (n : Nat) (τ : Nat → Prop) (e z bytes : Nat) (i0 : TypeInfo) (zv : Value) (hu : P.underlying T = some (.slice e)) (hi : P.info? e = some i0) (hz : i0.zero = some zv) (hz1 : i0.size = z) (hz2 : i0.bytes = bytes) (hzc : zv.cells.size = z) (hz0 : 0 < z) (hby : bytes ≤ 1000)
  (v : Value) (l : List (List Dat)) (hs : a.eval s = v) (hr : RwT W n τ e z v l) (hbase : n ≤ W.heap.size) (b : Nat) (us : List Value) (hx : a.eval x = .slice (some ⟨b, 0, none⟩) 1 1) (hb : W.heap[b]? = some (.cells us.toArray e (0, 0))) (hl : us.length = z) (h1 : us.all (·.oneCell') = true) (d : List Dat) (hd : KT W n τ d us) (het : ¬ τ e) (h10 : l.length ≤ 10) (m : Nat) (hm : l.length + 1 = m)
  (h : ∀ p' cap' W', RwT W' n τ e z (.slice p' m cap') (l ++ [d]) → W.grownBy W' v.ownBlock → ((Value.slice p' m cap').ownBlock = v.ownBlock ∨ (Value.slice p' m cap').ownBlock = some W.heap.size) → wpList P ops Q rest (a.put o.dst (.slice p' m cap')) W') : wpList P ops Q (o :: rest) a W :=
 wpList_plain hgd fun K hK => op_appT s x T ho n τ e z bytes i0 zv hu hi hz hz1 hz2 hzc hz0 hby v l hs hr hbase b us hx hb hl h1 d hd het h10 m hm (fun p' cap' W' r1 r2 r3 => hK _ _ (h p' cap' W' r1 r2 r3))
abbrev mnC (c : Int) (f a b : ByteArray) (k : Int) (v : Value) (l r : Opd) (w n : Int) : List Value := [.int .i64 c, .string f, .string a, .string b, .int .i64 k, v, .int .i64 l.k, .int .i64 l.vk, .int .i64 l.vi, .string l.vt, .string l.va, .string l.fd, .int .i64 r.k, .int .i64 r.vk, .int .i64 r.vi, .string r.vt, .string r.va, .string r.fd, .int .i64 w, .int .i64 n]
abbrev mnV (c : Int) (f a b : ByteArray) (k : Int) (v : Value) (l r : Opd) (w n : Int) : Value := .agg #[.int .i64 c, .string f, .string a, .string b, .int .i64 k, v, .int .i64 l.k, .int .i64 l.vk, .int .i64 l.vi, .string l.vt, .string l.va, .string l.fd, .int .i64 r.k, .int .i64 r.vk, .int .i64 r.vi, .string r.vt, .string r.va, .string r.fd, .int .i64 w, .int .i64 n]
def mn0 : List Value := mnC 0 (txt []) (txt []) (txt []) 0 (.slice none 0 0) opd0 opd0 0 0
def Stp (p : Prop) : Prop := p
theorem stp {p : Prop} (h : Stp p) : p := h
theorem wrap_id (x : Int) (h1 : 0 ≤ x) (h2 : x ≤ 1000) : RowKit.wrap64 x = x := by unfold RowKit.wrap64; omega
theorem bond_wr (ll r1 N : Nat) (h1 : ll < N) (h2 : r1 < N) (h3 : N ≤ 3) (h4 : 2 ≤ N) : RowKit.wrap64 ((ll : Int) + 1) = (ll : Int) + 1 ∧ RowKit.wrap64 ((N : Int) - 1) = (N : Int) - 1 ∧ RowKit.wrap64 ((ll : Int) + 1 + (r1 : Int)) = (ll : Int) + 1 + (r1 : Int) ∧ ¬ (N : Int) = 0 := ⟨wrap_id _ (by omega) (by omega), wrap_id _ (by omega) (by omega), wrap_id _ (by omega) (by omega), by omega⟩
theorem nat_in (a b : Nat) (h : a < b) : (0 : Int) ≤ (a : Int) ∧ (a : Int) < (b : Int) := ⟨by omega, by omega⟩
theorem nat_wr (m : Nat) (h : m ≤ 900) : RowKit.wrap64 ((m : Int) + 1) = ((m + 1 : Nat) : Int) := by rw [wrap_id _ (by omega) (by omega)]; omega
theorem wp_bsB {P : Program} {ops : Array Oper} {rest : List Oper} {o : Oper} {a : Act} {w : World} {Q : Exit → Act → World → Prop} (hgd : o.guard = none) (t : TypeId) (n : Nat) (parts : Array (Nat × Operand)) (ho : o.op = .buildSlice t n parts) (vals : Array (Nat × Value)) (hp : (parts.map fun x => (x.1, a.eval x.2)) = vals) (cs : List Value) (U : TypeId) (hv : ∀ w, (Instr.buildSlice t n vals).run P w = .ok (.slice (some ⟨w.heap.size, 0, none⟩) n n) (w.alloc (.cells cs.toArray U)))
  (h : ∀ b w', w'.heap[b]? = some (.cells cs.toArray U (0, 0)) → w.heap.size ≤ b → Below w.heap.size w w' → wpList P ops Q rest (a.put o.dst (.slice (some ⟨b, 0, none⟩) n n)) w') : wpList P ops Q (o :: rest) a w := by
 refine wpList_plain hgd fun K hK => ?_
 unfold Oper.wp execOp
 simp only [ho, Sem.run_bind, hp, hv, Result.andThen_ok, Sem.run_pure]
 exact hK _ _ (h _ _ (heap_alloc_new _ _) (Nat.le_refl _) ((Below.refl _ _).alloc (Nat.le_refl _) _))
theorem pos_of (q : Int) (h : 0 ≤ q) (h0 : q ≠ 0) : decide (0 < q) = true := decide_eq_true (by omega)
theorem infS : (Tryz.prog.info? 9).map (fun i => (i.zero, i.size, i.bytes)) = some (some (.string ByteArray.empty), 1, 16) := by kernel_rfl
theorem inP : ∃ i0, Tryz.prog.info? 50 = some i0 ∧ i0.zero = some zP ∧ i0.size = 18 ∧ i0.bytes = 224 := info_parts infoP
theorem inM : ∃ i0, Tryz.prog.info? 107 = some i0 ∧ i0.zero = some zM ∧ i0.size = 20 ∧ i0.bytes = 248 := info_parts infoM
theorem inK : ∃ i0, Tryz.prog.info? 105 = some i0 ∧ i0.zero = some (.agg #[.string ByteArray.empty, .slice none 0 0, .string ByteArray.empty]) ∧ i0.size = 3 ∧ i0.bytes = 56 := info_parts infoK
theorem inQ : ∃ i0, Tryz.prog.info? 101 = some i0 ∧ i0.zero = some (.agg #[.int .i64 0, .int .i64 0, .int .i64 0]) ∧ i0.size = 3 ∧ i0.bytes = 24 := info_parts infoQ
theorem inS : ∃ i0, Tryz.prog.info? 9 = some i0 ∧ i0.zero = some (.string ByteArray.empty) ∧ i0.size = 1 ∧ i0.bytes = 16 := info_parts infS
theorem cst0_ok : cst0.ok := ⟨by unfold i64ok cst0; decide, by unfold i64ok cst0; decide, by unfold i64ok cst0; decide, by unfold i64ok cst0; decide, by unfold i64ok cst0; decide⟩
theorem ok_getD {l : List Cst} (h : ∀ c, c ∈ l → c.ok) (k : Nat) : (l.getD k cst0).ok := by
  by_cases c : k < l.length
  . exact h _ (getD_mem c)
  . rw [List.getD_eq_getElem?_getD, List.getElem?_eq_none (by omega)]; exact cst0_ok
theorem rdCs {w : World} {c : Cst} {vs : List Value} (h : RdL w (encCs c) vs) : vs = [.int .i64 c.ty, .int .i64 c.co, .int .i64 c.n, .int .i64 c.wi, .int .i64 c.si] := by
  obtain ⟨v0, r0, rfl, h0, h⟩ := RdL.one h
  obtain ⟨v1, r1, rfl, h1, h⟩ := RdL.one h
  obtain ⟨v2, r2, rfl, h2, h⟩ := RdL.one h
  obtain ⟨v3, r3, rfl, h3, h⟩ := RdL.one h
  obtain ⟨v4, r4, rfl, h4, h⟩ := RdL.one h
  rw [rd_lit h0, rd_lit h1, rd_lit h2, rd_lit h3, rd_lit h4, RdL.none h]
theorem rdBd {w : World} {c : Bd6} {vs : List Value} (h : RdL w (encBd c) vs) : vs = [.int .i64 c.l, .int .i64 c.r, .int .i64 c.rl, .int .i64 c.lo, .int .i64 c.hi, .int .i64 c.ot] := by
  obtain ⟨v0, r0, rfl, h0, h⟩ := RdL.one h
  obtain ⟨v1, r1, rfl, h1, h⟩ := RdL.one h
  obtain ⟨v2, r2, rfl, h2, h⟩ := RdL.one h
  obtain ⟨v3, r3, rfl, h3, h⟩ := RdL.one h
  obtain ⟨v4, r4, rfl, h4, h⟩ := RdL.one h
  obtain ⟨v5, r5, rfl, h5, h⟩ := RdL.one h
  rw [rd_lit h0, rd_lit h1, rd_lit h2, rd_lit h3, rd_lit h4, rd_lit h5, RdL.none h]
theorem cs_at {w : World} {p : Option Addr} {l : List Cst} (h : At encCs 5 w p l) {k : Nat} (hk : k < l.length) : ∃ g off, p = some ⟨g, off, none⟩ ∧ ∀ W, Below w.heap.size w W → W.rangeAt g (off + k * 5) [.int .i64 (l.getD k cst0).ty, .int .i64 (l.getD k cst0).co, .int .i64 (l.getD k cst0).n, .int .i64 (l.getD k cst0).wi, .int .i64 (l.getD k cst0).si] := by
  obtain ⟨g, off, e, hr⟩ := h (by omega)
  refine ⟨g, off, e, fun W hW => ?_⟩
  obtain ⟨us, h1, h2⟩ := hr W hW k hk
  have h3 := rdCs h2
  subst h3
  have : l.getD k cst0 = l[k] := by rw [List.getD_eq_getElem?_getD, List.getElem?_eq_getElem hk]; rfl
  rw [this]
  exact h1
theorem bd_at {w : World} {p : Option Addr} {l : List Bd6} (h : At encBd 6 w p l) {k : Nat} (hk : k < l.length) : ∃ g off, p = some ⟨g, off, none⟩ ∧ ∀ W, Below w.heap.size w W → W.rangeAt g (off + k * 6) [.int .i64 (l.getD k bd0).l, .int .i64 (l.getD k bd0).r, .int .i64 (l.getD k bd0).rl, .int .i64 (l.getD k bd0).lo, .int .i64 (l.getD k bd0).hi, .int .i64 (l.getD k bd0).ot] := by
  obtain ⟨g, off, e, hr⟩ := h (by omega)
  refine ⟨g, off, e, fun W hW => ?_⟩
  obtain ⟨us, h1, h2⟩ := hr W hW k hk
  have h3 := rdBd h2
  subst h3
  have : l.getD k bd0 = l[k] := by rw [List.getD_eq_getElem?_getD, List.getElem?_eq_getElem hk]; rfl
  rw [this]
  exact h1
theorem kt_link {W : World} {n b : Nat} {l r : ByteArray} {o : Op3} (hb : n ≤ b) (h : W.heap[b]? = some (.cells #[.int .i64 o.r, .int .i64 o.lo, .int .i64 o.hi] 101 (0, 0))) : KT W n isQ (encK ⟨l, [o], r⟩) [.string l, .slice (some ⟨b, 0, none⟩) 1 1, .string r] := fun W' hW =>
  .cons (.lit _) (.cons (rd_blk (l := [o].map encQ) (cs := [.int .i64 o.r, .int .i64 o.lo, .int .i64 o.hi]) ((hW b _ hb rfl ⟨_, h⟩).trans h) (by simp) (by simp [maxLen]) (rdl_lits [.int .i64 o.r, .int .i64 o.lo, .int .i64 o.hi])) (.cons (.lit _) (RdL.nil _)))
theorem kt_link2 {W : World} {n : Nat} {τ : Nat → Prop} {l r : ByteArray} {v : Value} {o q : Op3} (h : RwT W n τ 101 3 v [encQ o, encQ q]) : KT W n isQ (encK ⟨l, [o, q], r⟩) [.string l, v, .string r] := by
 obtain ⟨xs, h1, h2⟩ := h
 have hx : xs = [.int .i64 o.r, .int .i64 o.lo, .int .i64 o.hi, .int .i64 q.r, .int .i64 q.lo, .int .i64 q.hi] := by
  obtain ⟨us, rs, e, a, b⟩ := RdL.split (ds := encQ o) (es := encQ q ++ []) h2.rd
  obtain ⟨us2, rs2, e2, a2, b2⟩ := RdL.split (ds := encQ q) (es := []) b
  rw [e, e2, rdQ a, rdQ a2, RdL.none b2]
  rfl
 subst hx
 intro W' hW
 have h3 := owns_same (w' := W') h1 fun i hi => hW i _ (own_TB h1 hi).2 rfl (own_TB h1 hi).1
 exact .cons (.lit _) (.cons (rd_own h3 (rdl_lits [.int .i64 o.r, .int .i64 o.lo, .int .i64 o.hi, .int .i64 q.r, .int .i64 q.lo, .int .i64 q.hi])) (.cons (.lit _) (RdL.nil _)))
theorem bd0_ok : bd0.ok := ⟨by unfold i64ok bd0; decide, by unfold i64ok bd0; decide, by unfold i64ok bd0; decide, by unfold i64ok bd0; decide, by unfold i64ok bd0; decide, by unfold i64ok bd0; decide⟩
theorem ok_getB {l : List Bd6} (h : ∀ c, c ∈ l → c.ok) (k : Nat) : (l.getD k bd0).ok := by
  by_cases c : k < l.length
  . exact h _ (getD_mem c)
  . rw [List.getD_eq_getElem?_getD, List.getElem?_eq_none (by omega)]; exact bd0_ok
theorem rwt_new {W : World} {n b e z : Nat} {τ : Nat → Prop} {d : List Dat} {us : List Value} (hb : n ≤ b) (h : W.heap[b]? = some (.cells us.toArray e (0, 0))) (hz : us.length = z) (hd : KT W n τ d us) : RwT W n τ e z (.slice (some ⟨b, 0, none⟩) 1 1) [d] :=
  ⟨us, ⟨by simpa using hz, .inr ⟨b, 1, us.toArray, rfl, hb, h, Nat.le_refl _, by decide, by simpa using hz, by rw [← hz]; simp⟩⟩, by simpa using hd⟩
theorem nm_at {w : World} {n : Nat} {τ : Nat → Prop} {v : Value} {l : List ByteArray} (h : RwT w n τ 9 1 v (l.map encS)) {q : Nat} (hq : q < l.length) : ∃ g off cap, v = .slice (some ⟨g, off, none⟩) l.length cap ∧ ∀ W, Below w.heap.size w W → W.cell? ⟨g, off + q, none⟩ = some (.string (l.getD q (txt []))) := by
  obtain ⟨p, cap, e, _, hat⟩ := rd_row lenS h.rd
  obtain ⟨g, off, rfl, hr⟩ := hat (by omega)
  refine ⟨g, off, cap, e, fun W hW => ?_⟩
  obtain ⟨us, h1, h2⟩ := hr W hW q hq
  have h3 := rdS h2
  subst h3
  have := h1 0 _ rfl
  rw [List.getD_eq_getElem?_getD, List.getElem?_eq_getElem hq]
  simpa using this
theorem nm_all {w : World} {n : Nat} {τ : Nat → Prop} {v : Value} {l : List ByteArray} (h : RwT w n τ 9 1 v (l.map encS)) (h0 : 0 < l.length) : ∃ g off cap, v = .slice (some ⟨g, off, none⟩) l.length cap ∧ ∀ q, q < l.length → ∀ W, Below w.heap.size w W → W.cell? ⟨g, off + q, none⟩ = some (.string (l.getD q (txt []))) := by
  obtain ⟨p, cap, e, _, hat⟩ := rd_row lenS h.rd
  obtain ⟨g, off, rfl, hr⟩ := hat h0
  refine ⟨g, off, cap, e, fun q hq W hW => ?_⟩
  obtain ⟨us, h1, h2⟩ := hr W hW q hq
  have h3 := rdS h2
  subst h3
  have := h1 0 _ rfl
  rw [List.getD_eq_getElem?_getD, List.getElem?_eq_getElem hq]
  simpa using this
theorem pwW_mod (c : Cst) : (pkd c.wi 4).tmod 3 = pwW c := by
  have := pkd_in c.wi (m := 4) (by decide)
  unfold pwW
  rcases (by omega : pkd c.wi 4 = 0 ∨ pkd c.wi 4 = 1 ∨ pkd c.wi 4 = 2 ∨ pkd c.wi 4 = 3) with h | h | h | h <;> rw [h] <;> rfl
abbrev isR (t : Nat) : Prop := t ≠ 41 ∧ t ≠ 26
structure Fin (w0 w : World) (r : Rl) (wv tv mv kv ev : Value) : Prop where
  bel : Below w0.heap.size w0 w
  zb : w.heap[w0.heap.size + 1]? = some (.cells (rlC (txt []) (.slice none 0 0) (.slice none 0 0) (.slice none 0 0) (.slice none 0 0) (txt []) (.slice none 0 0)).toArray 41 (0, 0))
  ub : w.heap[w0.heap.size + 2]? = some (.cells (rlC r.n wv tv mv kv r.e.ty ev).toArray 41 (0, 0))
  r1 : RwT w w0.heap.size isC 50 18 wv (r.w.map encP)
  r2 : RwT w w0.heap.size isC 50 18 tv (r.t.map encP)
  r3 : RwT w w0.heap.size isC 107 20 mv (r.m.map encM)
  r4 : RwT w w0.heap.size isQ 105 3 kv (r.k.map encK)
  r5 : RwT w w0.heap.size isC 46 6 ev (r.e.v.map encO)
section
variable {w0 w w6 : World} {pc : List Value} {r : Rl} {kn al : List ByteArray} {wv tv mv kv nv av ev : Value}
theorem Ru.fin (h : Ru w0 w pc r kn al wv tv mv kv nv av) (e : Em) (he : e = ⟨txt [], []⟩) : Fin w0 w { r with e := e } wv tv mv kv (.slice none 0 0) := by
  subst he
  exact ⟨h.bel, h.zb, h.ub, h.r1, h.r2, h.r3, h.r4, RwT.nil _ _ _ _ _⟩
theorem Ru.emit (h : Ru w0 w pc r kn al wv tv mv kv nv av) {b : Nat} {o : Opd} {ety : ByteArray} (hf : Fr (fun i => i = w0.heap.size + 2) w w6) (hu : w6.heap[w0.heap.size + 2]? = some (.cells (rlC r.n wv tv mv kv ety (.slice (some ⟨b, 0, none⟩) 1 1)).toArray 41 (0, 0))) (hb : w.heap[b]? = some (.cells (opC o).toArray 46 (0, 0))) (hbn : w0.heap.size ≤ b) : Fin w0 w6 { r with e := ⟨ety, [o]⟩ } wv tv mv kv (.slice (some ⟨b, 0, none⟩) 1 1) := by
  have hb6 : w6.heap[b]? = some (.cells (opC o).toArray 46 (0, 0)) := (hf.block b (blk_lt hb) (fun c => TB.ne ⟨_, hb⟩ h.tu (by decide) c)).trans hb
  refine ⟨below_fr h.bel hf (by omega), (hf.block _ (blk_lt h.zb) (by show w0.heap.size + 1 ≠ w0.heap.size + 2; omega)).trans h.zb, hu, h.r1.set hf h.tu (by decide) (by decide), h.r2.set hf h.tu (by decide) (by decide), h.r3.set hf h.tu (by decide) (by decide), h.r4.set hf h.tu (by decide) (by decide), rwt_new hbn hb6 rfl (KT.lits _ _ _ (opC o))⟩
theorem Fin.val {b : Nat} {o o' : Opd} {ety : ByteArray} (h : Fin w0 w { r with e := ⟨ety, [o]⟩ } wv tv mv kv (.slice (some ⟨b, 0, none⟩) 1 1)) (hf : Fr (fun i => i = b) w w6) (hb : w6.heap[b]? = some (.cells (opC o').toArray 46 (0, 0))) : Fin w0 w6 { r with e := ⟨ety, [o']⟩ } wv tv mv kv (.slice (some ⟨b, 0, none⟩) 1 1) := by
  have ht := h.r5.tb (i := b) rfl
  have n1 : w0.heap.size + 1 ≠ b := fun c => TB.ne ⟨_, h.zb⟩ ht.1 (by decide) c
  have n2 : w0.heap.size + 2 ≠ b := fun c => TB.ne ⟨_, h.ub⟩ ht.1 (by decide) c
  refine ⟨below_fr h.bel hf ht.2, (hf.block _ (blk_lt h.zb) n1).trans h.zb, (hf.block _ (blk_lt h.ub) n2).trans h.ub, h.r1.set hf ht.1 (by decide) (by decide), h.r2.set hf ht.1 (by decide) (by decide), h.r3.set hf ht.1 (by decide) (by decide), h.r4.set hf ht.1 (by decide) (by decide), rwt_new ht.2 hb rfl (KT.lits _ _ _ (opC o'))⟩
theorem RwT.rdN {n e z : Nat} {τ : Nat → Prop} {v : Value} {l : List (List Dat)} (h : RwT w n τ e z v l) (he : isR e) (ht : ∀ t, τ t → isR t) (W : World) (hW : ∀ i t, n ≤ i → isR t → TB w t i → W.heap[i]? = w.heap[i]?) : Rd W (.row e z l) v :=
  h.rdW W (fun i hi => hW i e (h.tb hi).2 he (h.tb hi).1) (fun i t hi hq hb => hW i t hi (ht t hq) hb)
theorem Fin.kt (h : Fin w0 w r wv tv mv kv ev) : KT w w0.heap.size isR (encR r) (rlC r.n wv tv mv kv r.e.ty ev) := fun W hW =>
  .cons (.lit _) (.cons (h.r1.rdN (by decide) (fun t c => by rw [c]; decide) W hW) (.cons (h.r2.rdN (by decide) (fun t c => by rw [c]; decide) W hW) (.cons (h.r3.rdN (by decide) (fun t c => by rw [c]; decide) W hW) (.cons (h.r4.rdN (by decide) (fun t c => by rw [c]; decide) W hW) (.cons (.lit _) (.cons (h.r5.rdN (by decide) (fun t c => by rw [c]; decide) W hW) (RdL.nil _)))))))
end
end Go.Proofs.YtdihklfaiiclgaaGreatDoor.Chk
