/-
  Names and windows, by the program; what a change of the map leaves.
-/
import Derived.Test.YthndlfdbmljkhaaGreatDoorDe
namespace Go.Proofs.YthndlfdbmljkhaaGreatDoor.Chk
open Go.ChangeShapes Go.WideShapes Go.ChangeAt Go.RowKit Go.Maps
set_option linter.unusedVariables false
set_option linter.unusedSimpArgs false
set_option maxRecDepth 20000
theorem cell_fr {w w' : World} {mb : Nat} (hk : ∃ es c, w.heap[mb]? = some (.map es c)) (hf : Fr (fun i => i = mb) w w') {p : Addr} {v : Value} (h : w.cell? p = some v) : w'.cell? p = some v := by
  obtain ⟨es, c, hm⟩ := hk
  have hne : p.block ≠ mb := fun e => by
    unfold World.cell? at h
    rw [e, hm] at h
    cases h
  exact (World.cell?_of_block (a := p) (hf.block _ (World.block_lt_of_cell? _ _ h) hne)).trans h
theorem range_fr {w w' : World} {mb : Nat} (hk : ∃ es c, w.heap[mb]? = some (.map es c)) (hf : Fr (fun i => i = mb) w w') {g o : Nat} {l : List Value} (h : w.rangeAt g o l) : w'.rangeAt g o l := fun j x hx => cell_fr hk hf (h j x hx)
theorem Rd.fr {w w' : World} {mb : Nat} (hk : ∃ es c, w.heap[mb]? = some (.map es c)) (hf : Fr (fun i => i = mb) w w') {d : Dat} {v : Value} (h : Rd w d v) : Rd w' d v := by
  induction h with
  | lit v => exact .lit v
  | nil e z p cap h => exact .nil e z p cap h
  | row e z l g off cap xs h1 h2 h3 h4 h5 _ ih => exact .row e z l g off cap xs h1 h2 h3 (range_fr hk hf h4) h5 ih
theorem Km.isMap {w : World} {mb : Nat} {K : Kns} {n : Nat} (h : Km w mb K n) : ∃ es c, w.heap[mb]? = some (.map es c) := by
  obtain ⟨D, ⟨es, clock, hb, _⟩, _⟩ := h
  exact ⟨es, clock, hb⟩
theorem tab_fr {w w' : World} {mb g : Nat} {l : List (List UInt8)} (hk : ∃ es c, w.heap[mb]? = some (.map es c)) (hf : Fr (fun i => i = mb) w w') (h : Tab w g l) (hl : 0 < l.length) : Tab w' g l := by
  refine h.fr hf fun e => ?_
  subst e
  obtain ⟨es, c, hm⟩ := hk
  have := h.2 0 hl
  unfold World.cell? at this
  simp only [hm] at this
  cases this
theorem Scp.fr {w w' : World} {ts : List Tp} {tv : Value} {b mb n n' : Nat} {K K' : Kns} (h : Scp w ts tv b mb K n) (hf : Fr (fun i => i = mb) w w') (hk : Km w' mb K' n') : Scp w' ts tv b mb K' n' :=
  ⟨h.rt.fr h.km.isMap hf, cell_fr h.km.isMap hf h.fd, hk, tab_fr h.km.isMap hf h.tk (by decide), tab_fr h.km.isMap hf h.tr (by decide)⟩
set_option maxHeartbeats 4000000 in
theorem checkName_any (s : ByteArray) (w : World) (hk : Tab w 0 kpl) (hr : Tab w 1 rll) : Calls Tryz.prog 101 #[.string s] w fun e w' => e = .returned (.int .i64 (frn s)) ∧ w' = w := by
  have H1 := hid (name_any s w)
  have H2 := hid (kept_any s w hk hr)
  unfold frn
  obtain ⟨r, hr'⟩ : ∃ r, nchk s = r := ⟨_, rfl⟩
  obtain ⟨q, hq⟩ : ∃ q, kpt s = q := ⟨_, rfl⟩
  rw [hr'] at H1
  rw [hq] at H2
  rw [hr', hq]
  clear hr' hq hk hr
  by_cases h0 : r = 0
  · subst h0
    cases q with
    | true =>
      rw [if_pos ⟨rfl, rfl⟩]
      go_enter Tryz.func101, Tryz.ntmps101
      go_wp2_with (first | (go_at_call 97; refine H1.out.mono ?_; rintro e _ ⟨rfl, rfl⟩) | (go_at_call 56; refine H2.out.mono ?_; rintro e _ ⟨rfl, rfl⟩))
      go_ret
      exact ⟨rfl, rfl⟩
    | false =>
      rw [if_neg (by simp)]
      go_enter Tryz.func101, Tryz.ntmps101
      go_wp2_with (first | (go_at_call 97; refine H1.out.mono ?_; rintro e _ ⟨rfl, rfl⟩) | (go_at_call 56; refine H2.out.mono ?_; rintro e _ ⟨rfl, rfl⟩))
      go_ret
      exact ⟨rfl, rfl⟩
  · rw [if_neg (fun c => h0 c.1)]
    have d1 : (r != 0) = true := by simpa using h0
    clear h0
    go_enter Tryz.func101, Tryz.ntmps101
    go_wp2_with (go_at_call 97; refine H1.out.mono ?_; rintro e _ ⟨rfl, rfl⟩)
    go_ret
    exact ⟨rfl, rfl⟩
/-- A row of numbers. -/
def Ints (w : World) (v : Value) (xs : List Int) : Prop := ∃ g cap, v = .slice (some ⟨g, 0, none⟩) xs.length cap ∧ xs.length ≤ cap ∧ (xs.length : Int) ≤ 9223372036854775807 ∧ ∀ k (hk : k < xs.length), w.cell? ⟨g, k, none⟩ = some (.int .i64 xs[k])
theorem Ints.later {w w' : World} {v : Value} {xs : List Int} (h : Ints w v xs) (hb : Below w.heap.size w w') : Ints w' v xs := by
  obtain ⟨g, cap, h1, h2, h3, h4⟩ := h
  exact ⟨g, cap, h1, h2, h3, fun k hk => (hb.cell (p := ⟨g, k, none⟩) (World.block_lt_of_cell? _ _ (h4 k hk))).trans (h4 k hk)⟩
set_option maxHeartbeats 4000000 in
theorem index_any (xs : List Int) (x : Int) (v : Value) (w : World) (h : Ints w v xs) : Calls Tryz.prog 89 #[v, .int .i64 x] w fun e w' => ∃ r : Int, e = .returned (.int .i64 r) ∧ (0 ≤ r ↔ x ∈ xs) ∧ w' = w := by
  obtain ⟨g, cap, rfl, hc, hmx, hcell⟩ := h
  have HC := hid hcell
  obtain ⟨n, hn⟩ : ∃ n, xs.length = n := ⟨_, rfl⟩
  have HN := hid hn
  rw [hn] at hc hmx ⊢
  clear hcell hn
  go_enter Tryz.func89, Tryz.ntmps89
  go_wp2_with fail
  go_loopg [8] (n + 1) (fun gg i wr => ∃ k : Nat, k ≤ n ∧ gg = n + 1 - k ∧ i = .int .i64 (k : Nat) ∧ (∀ j (hj : j < xs.length), j < k → x ≠ xs[j]) ∧ wr = w)
  case atStart => exact ⟨0, by omega, by omega, rfl, fun j _ h => by omega, rfl⟩
  case round =>
    obtain ⟨k, hk, rfl, rfl, hno, rfl⟩ := hrel
    have HNO := hid hno
    clear hno
    by_cases hlt : k < n
    · have hkc : k < xs.length := by have := HN.out; omega
      have c0 := HC.out k hkc
      obtain ⟨y, hy⟩ : ∃ y, xs[k] = y := ⟨_, rfl⟩
      have HY := hid hy
      rw [hy] at c0
      have i1 : (0 : Int) ≤ (k : Int) := by omega
      have i2 : (k : Int) < (n : Int) := by omega
      clear hy
      by_cases he : x = y
      · subst he
        go_wp2_with fail
        go_ret
        exact ⟨(k : Int), rfl, ⟨fun _ => by rw [← HY.out]; exact List.getElem_mem hkc, fun _ => by omega⟩, rfl⟩
      · have d1 : (x == y) = false := by simpa using he
        have HE := hid he
        clear he
        go_wp2_with fail
        go_roundg (n + 1 - (k + 1))
        case rel =>
          refine ⟨k + 1, by omega, rfl, by go_num, fun j hj hjk => ?_, rfl⟩
          by_cases c : j < k
          · exact HNO.out j hj c
          · obtain rfl : j = k := by omega
            rw [HY.out]
            exact HE.out
        case measure => omega
    · obtain rfl : k = n := by omega
      go_wp2_with fail
      go_ret
      refine ⟨-1, rfl, ⟨fun h => by omega, fun h => ?_⟩, rfl⟩
      obtain ⟨j, hj, e⟩ := List.getElem_of_mem h
      exact absurd e.symm (HNO.out j hj (by have := HN.out; omega))
set_option maxHeartbeats 4000000 in
theorem contains_any (xs : List Int) (x : Int) (v : Value) (w : World) (h : Ints w v xs) (q : Bool) (hq : decide (x ∈ xs) = q) : Calls Tryz.prog 48 #[v, .int .i64 x] w fun e w' => e = .returned (.bool q) ∧ w' = w := by
  have H1 := hid (index_any xs x v w h)
  obtain ⟨g, cap, rfl, _, _, _⟩ := h
  have HQ := hid hq
  clear hq
  go_enter Tryz.func48, Tryz.ntmps48
  go_wp2_with fail
  refine H1.out.mono ?_
  rintro e _ ⟨r, rfl, hr, rfl⟩
  have HR := hid hr
  clear hr
  cases q with
  | true =>
    have g1 : 0 ≤ r := HR.out.2 (by simpa using HQ.out)
    go_wp2_with fail
    go_ret
    exact ⟨rfl, rfl⟩
  | false =>
    have h2 : ¬ x ∈ xs := by simpa using HQ.out
    have g1 : decide (0 ≤ r) = false := by simp only [decide_eq_false_iff_not]; exact fun c => h2 (HR.out.1 c)
    clear h2
    go_wp2_with fail
    go_ret
    exact ⟨rfl, rfl⟩
/-- What is wrong with a window of one of these kinds. -/
def wck (xs : List Int) (w n : Int) : Int := if ¬ w ∈ xs ∨ (w = 0 ∧ n ≠ 0) then 4 else if rbad w n then 2 else 0
set_option maxHeartbeats 16000000 in
theorem checkWindow_any (xs : List Int) (va ty : ByteArray) (ck : Int) (p : Option Addr) (m cap : Nat) (l r : Opd) (pw pn : Int) (v : Value) (w : World) (h : Ints w v xs) :
    Calls Tryz.prog 151 #[ptV va ty ck (.slice p m cap) l r pw pn, v] w fun e w' => e = .returned (.int .i64 (wck xs pw pn)) ∧ Below w.heap.size w w' := by
  obtain ⟨q, hq⟩ : ∃ q, decide (pw ∈ xs) = q := ⟨_, rfl⟩
  have HC := hid (fun W (hW : Below w.heap.size w W) => contains_any xs pw v W (h.later hW) q hq)
  have HB : Hid (Below w.heap.size w (w.alloc (.cells (ptC va ty ck (.slice p m cap) l r pw pn).toArray 65))) := (Below.refl _ _).alloc (Nat.le_refl _) _
  obtain ⟨g, vc, rfl, _, _, _⟩ := h
  obtain ⟨W, hW⟩ : ∃ W, wck xs pw pn = W := ⟨_, rfl⟩
  rw [hW]
  have HQ := hid hq
  unfold wck at hW
  have HW := hid hW
  clear hW hq
  cases q with
  | false =>
    have HM : Hid (¬ pw ∈ xs) := by show ¬ _; simpa using HQ.out
    go_enter Tryz.func151, Tryz.ntmps151
    go_wp2_with (go_at_call 48; refine (HC.out _ HB.out).mono ?_; rintro e _ ⟨rfl, rfl⟩)
    go_ret
    exact ⟨ret_int (by rw [← HW.out]; rw [if_pos (.inl HM.out)]), HB.out⟩
  | true =>
    have HM : Hid (pw ∈ xs) := by show _ ∈ _; simpa using HQ.out
    rcases (by omega : (pw = 0 ∧ pn ≠ 0) ∨ (pw = 0 ∧ pn = 0) ∨ (pw = 1 ∧ pn < 0) ∨ (pw = 1 ∧ 1073741824 < pn) ∨ (pw = 1 ∧ 0 ≤ pn ∧ pn ≤ 1073741824) ∨ (pw = 2 ∧ pn < 1) ∨ (pw = 2 ∧ 120 < pn) ∨ (pw = 2 ∧ 1 ≤ pn ∧ pn ≤ 120) ∨ (pw ≠ 0 ∧ pw ≠ 1 ∧ pw ≠ 2)) with c | c | c | c | c | c | c | c | c
    · obtain ⟨rfl, c2⟩ := c
      have d2 : (pn != 0) = true := by simpa using c2
      have HX := hid c2
      clear c2
      go_enter Tryz.func151, Tryz.ntmps151
      go_wp2_with (go_at_call 48; refine (HC.out _ HB.out).mono ?_; rintro e _ ⟨rfl, rfl⟩)
      go_ret
      exact ⟨ret_int (by rw [← HW.out]; rw [if_pos (.inr ⟨by simp, HX.out⟩)]), HB.out⟩
    · obtain ⟨rfl, rfl⟩ := c
      go_enter Tryz.func151, Tryz.ntmps151
      go_wp2_with (go_at_call 48; refine (HC.out _ HB.out).mono ?_; rintro e _ ⟨rfl, rfl⟩)
      go_ret
      exact ⟨ret_int (by rw [← HW.out]; rw [if_neg (fun c => c.elim (fun d => d HM.out) (fun d => d.2 rfl)), if_neg (by unfold rbad; omega)]), HB.out⟩
    · obtain ⟨rfl, c2⟩ := c
      have HX := hid c2
      go_enter Tryz.func151, Tryz.ntmps151
      go_wp2_with (go_at_call 48; refine (HC.out _ HB.out).mono ?_; rintro e _ ⟨rfl, rfl⟩)
      go_ret
      exact ⟨ret_int (by rw [← HW.out]; rw [if_neg (fun c => c.elim (fun d => d HM.out) (fun d => absurd d.1 (by decide))), if_pos (by have := HX.out; unfold rbad; omega)]), HB.out⟩
    · obtain ⟨rfl, c2⟩ := c
      have c3 : ¬ pn < 0 := by omega
      have HX := hid c2
      go_enter Tryz.func151, Tryz.ntmps151
      go_wp2_with (go_at_call 48; refine (HC.out _ HB.out).mono ?_; rintro e _ ⟨rfl, rfl⟩)
      go_ret
      exact ⟨ret_int (by rw [← HW.out]; rw [if_neg (fun c => c.elim (fun d => d HM.out) (fun d => absurd d.1 (by decide))), if_pos (by have := HX.out; unfold rbad; omega)]), HB.out⟩
    · obtain ⟨rfl, c2, c3⟩ := c
      have c4 : ¬ pn < 0 := by omega
      have c5 : ¬ 1073741824 < pn := by omega
      have HX := hid (And.intro c2 c3)
      go_enter Tryz.func151, Tryz.ntmps151
      go_wp2_with (go_at_call 48; refine (HC.out _ HB.out).mono ?_; rintro e _ ⟨rfl, rfl⟩)
      go_ret
      exact ⟨ret_int (by rw [← HW.out]; rw [if_neg (fun c => c.elim (fun d => d HM.out) (fun d => absurd d.1 (by decide))), if_neg (by have := HX.out; unfold rbad; omega)]), HB.out⟩
    · obtain ⟨rfl, c2⟩ := c
      have HX := hid c2
      go_enter Tryz.func151, Tryz.ntmps151
      go_wp2_with (go_at_call 48; refine (HC.out _ HB.out).mono ?_; rintro e _ ⟨rfl, rfl⟩)
      go_ret
      exact ⟨ret_int (by rw [← HW.out]; rw [if_neg (fun c => c.elim (fun d => d HM.out) (fun d => absurd d.1 (by decide))), if_pos (by have := HX.out; unfold rbad; omega)]), HB.out⟩
    · obtain ⟨rfl, c2⟩ := c
      have c3 : ¬ pn < 1 := by omega
      have HX := hid c2
      go_enter Tryz.func151, Tryz.ntmps151
      go_wp2_with (go_at_call 48; refine (HC.out _ HB.out).mono ?_; rintro e _ ⟨rfl, rfl⟩)
      go_ret
      exact ⟨ret_int (by rw [← HW.out]; rw [if_neg (fun c => c.elim (fun d => d HM.out) (fun d => absurd d.1 (by decide))), if_pos (by have := HX.out; unfold rbad; omega)]), HB.out⟩
    · obtain ⟨rfl, c2, c3⟩ := c
      have c4 : ¬ pn < 1 := by omega
      have c5 : ¬ 120 < pn := by omega
      have HX := hid (And.intro c2 c3)
      go_enter Tryz.func151, Tryz.ntmps151
      go_wp2_with (go_at_call 48; refine (HC.out _ HB.out).mono ?_; rintro e _ ⟨rfl, rfl⟩)
      go_ret
      exact ⟨ret_int (by rw [← HW.out]; rw [if_neg (fun c => c.elim (fun d => d HM.out) (fun d => absurd d.1 (by decide))), if_neg (by have := HX.out; unfold rbad; omega)]), HB.out⟩
    · obtain ⟨c0, c1, c2⟩ := c
      have d0 : (pw == 0) = false := by simpa using c0
      have d1 : (pw == 1) = false := by simpa using c1
      have d2 : (pw == 2) = false := by simpa using c2
      have HX := hid (And.intro c0 (And.intro c1 c2))
      clear c0 c1 c2
      go_enter Tryz.func151, Tryz.ntmps151
      go_wp2_with (go_at_call 48; refine (HC.out _ HB.out).mono ?_; rintro e _ ⟨rfl, rfl⟩)
      go_ret
      exact ⟨ret_int (by rw [← HW.out]; rw [if_neg (fun c => c.elim (fun d => d HM.out) (fun d => HX.out.1 d.1)), if_neg (by have := HX.out; unfold rbad; omega)]), HB.out⟩
end Go.Proofs.YthndlfdbmljkhaaGreatDoor.Chk
