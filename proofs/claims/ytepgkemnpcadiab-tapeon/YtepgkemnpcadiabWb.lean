/-
  Whether an operation may be told as bytes: the program's Check, and the document's.
-/
import Derived.Test.YtepgkemnpcadiabWa
import Derived.Test.YtepgkemnpcadiabBb
namespace Go.Proofs.Ytepgkemnpcadiab
open Go.ChangeShapes Go.WideShapes Go.ChangeAt Go.RowKit Go.Maps
set_option linter.unusedVariables false
set_option linter.unusedSimpArgs false
/-- An operation: kind, type, span, values, time, whether. -/
structure Opn where
  k : Int
  s : ByteArray
  a : Int
  b : Int
  l : List Vl
  d : Int
  c : Bool
def tmk (d : Int) : Int := if 0 ≤ d ∧ d ≤ 1099511627776 then 0 else 2
def evk (a b : Int) (l : List Vl) : Int := if schk a b ≠ 0 then schk a b else if 4 < l.length then 1 else fst (vat l) l.length
def brk (o : Opn) : Int := S.bare o.k o.s o.a o.b o.l.length o.d o.c
def ochk (o : Opn) : Int := if brk o ≠ 0 then brk o else if o.k = 2 then tmk o.d else if o.k = 1 ∧ evk o.a o.b o.l ≠ 0 then evk o.a o.b o.l else nchk o.s
def opv (o : Opn) (u : Value) : Value := .agg #[.int .i64 o.k, .string o.s, .int .i64 o.a, .int .i64 o.b, u, .int .i64 o.d, .bool o.c]
theorem brk_kind {o : Opn} (h : brk o = 0) : o.k = 1 ∨ o.k = 2 ∨ o.k = 3 := by
  unfold brk S.bare at h
  by_cases h1 : o.k = 1
  · exact Or.inl h1
  · by_cases h2 : o.k = 2
    · exact Or.inr (Or.inl h2)
    · by_cases h3 : o.k = 3
      · exact Or.inr (Or.inr h3)
      · simp [h1, h2, h3] at h
/-- An operation in a block of its own. -/
structure OpAt (w : World) (g : Nat) (o : Opn) (u : Value) : Prop where
  lt : g < w.heap.size
  c0 : w.cell? ⟨g, 0, none⟩ = some (.int .i64 o.k)
  c1 : w.cell? ⟨g, 1, none⟩ = some (.string o.s)
  c2 : w.cell? ⟨g, 2, none⟩ = some (.int .i64 o.a)
  c3 : w.cell? ⟨g, 3, none⟩ = some (.int .i64 o.b)
  c4 : w.cell? ⟨g, 4, none⟩ = some u
  c5 : w.cell? ⟨g, 5, none⟩ = some (.int .i64 o.d)
  c6 : w.cell? ⟨g, 6, none⟩ = some (.bool o.c)
theorem cell_new {X : World} {cs : Array Value} {t : TypeId} {g j : Nat} {v : Value} (hg : g = X.heap.size) (hv : cs[j]? = some v) : (X.alloc (.cells cs t)).cell? ⟨g, j, none⟩ = some v := by
  subst hg
  have h : (X.alloc (.cells cs t)).heap[X.heap.size]? = some (.cells cs t (0, 0)) := by first | exact heap_alloc_new X _ | exact _root_.Go.heap_alloc_new X _
  rw [cell_of_row _ _ _ _ t (0, 0) h]
  simpa using hv
theorem OpAt.new (w : World) (o : Opn) (u : Value) (t : TypeId) : OpAt (w.alloc (.cells #[.int .i64 o.k, .string o.s, .int .i64 o.a, .int .i64 o.b, u, .int .i64 o.d, .bool o.c] t)) w.heap.size o u :=
  ⟨by simp, cell_new rfl rfl, cell_new rfl rfl, cell_new rfl rfl, cell_new rfl rfl, cell_new rfl rfl, cell_new rfl rfl, cell_new rfl rfl⟩
theorem OpAt.below {w w' : World} {g B : Nat} {o : Opn} {u : Value} (h : OpAt w g o u) (b : Below B w w') (hg : g < B) : OpAt w' g o u :=
  ⟨Nat.lt_of_lt_of_le h.lt b.size, (b.cell (p := ⟨g, 0, none⟩) hg).trans h.c0, (b.cell (p := ⟨g, 1, none⟩) hg).trans h.c1, (b.cell (p := ⟨g, 2, none⟩) hg).trans h.c2, (b.cell (p := ⟨g, 3, none⟩) hg).trans h.c3, (b.cell (p := ⟨g, 4, none⟩) hg).trans h.c4, (b.cell (p := ⟨g, 5, none⟩) hg).trans h.c5, (b.cell (p := ⟨g, 6, none⟩) hg).trans h.c6⟩
theorem ValsAt.shape' {w : World} {v : Value} {l : List Vl} (h : ValsAt w v l) : ∃ p cap, v = .slice p l.length cap ∧ l.length ≤ maxLen := by
  obtain ⟨p, cap, h1, h2, h3, _⟩ := h
  exact ⟨p, cap, h1, by omega⟩
set_option maxHeartbeats 2000000 in
theorem addZ_any (d : Int) (r : Int) (hr : tmk d = r) (w : World) :
    Calls Try.prog 38 #[.int .i64 d, .int .i64 0] w fun e w' => ∃ x, e = .returned (.tuple #[.int .i64 x, .int .i64 r]) ∧ w' = w := by
  have HR : Hid (tmk d = r) := hr
  clear hr
  obtain ⟨a, ha⟩ := bool_of (0 ≤ d ∧ d ≤ 1099511627776)
  have HA : Hid (Say a (0 ≤ d ∧ d ≤ 1099511627776)) := ha
  cases a
  · clear ha
    go_enter Try.func38, Try.ntmps38
    go_wp2_with (go_at_call 49; refine (isTime_any _ _ HA.out _).mono ?_; rintro e w2 ⟨rfl, rfl⟩)
    go_ret2
    refine ⟨0, ?_, rfl⟩
    have h := HA.out.f
    rw [← HR.out]; unfold tmk; rw [if_neg h]; rfl
  · obtain ⟨h1, h2⟩ := ha.t
    have k1 : ¬ (1099511627776 - d < 0) := by omega
    have k2 : wrap64 (1099511627776 - d) = 1099511627776 - d := by unfold wrap64; omega
    clear ha
    go_enter Try.func38, Try.ntmps38
    go_wp2_with (go_at_call 49; refine (isTime_any _ _ HA.out _).mono ?_; rintro e w2 ⟨rfl, rfl⟩)
    all_goals
      first
      | (exfalso; simp [k2] at *; omega)
      | (go_ret2
         refine ⟨d, ?_, rfl⟩
         have h := HA.out.t
         rw [← HR.out]; unfold tmk; rw [if_pos h]; rfl)
set_option maxHeartbeats 4000000 in
theorem wev_any (a b : Int) (v : Value) (l : List Vl) (w : World) (hv : ValsAt w v l) :
    Calls Try.prog 39 #[.agg #[.int .i64 a, .int .i64 b], v] w fun e w' => e = .returned (.int .i64 (evk a b l)) ∧ Below w.heap.size w w' := by
  obtain ⟨p, cap, rfl, hcap, hmax, hp⟩ := hv
  obtain ⟨n, hnl⟩ : ∃ n, l.length = n := ⟨_, rfl⟩
  have HP : Hid (0 < l.length → ∃ g off, p = some ⟨g, off, none⟩ ∧ ∀ j (hj : j < l.length), g < w.heap.size ∧ w.cell? ⟨g, off + j * 3, none⟩ = some (.int .i64 l[j].k) ∧ w.cell? ⟨g, off + j * 3 + 1, none⟩ = some (.int .i64 l[j].n) ∧ w.cell? ⟨g, off + j * 3 + 2, none⟩ = some (.string l[j].s)) := hp
  have HNL : Hid (l.length = n) := hnl
  have hmx : (n : Int) ≤ 9223372036854775807 := by unfold maxLen at hmax; omega
  obtain ⟨z, hz⟩ : ∃ z, schk a b = z := ⟨_, rfl⟩
  obtain ⟨y, hy⟩ : ∃ y, evk a b l = y := ⟨_, rfl⟩
  have HY : Hid (evk a b l = y) := hy
  have HZ : Hid (schk a b = z) := hz
  have HC := hid (fun W => tickCheck_any a b W)
  rw [hz] at HC
  rw [hnl, hy]
  have HE : Hid (y = if z ≠ 0 then z else if 4 < n then 1 else fst (vat l) n) := by rw [← hy, ← hz, ← hnl]; rfl
  clear hp hnl hcap hmax hz hy
  by_cases hz0 : z = 0
  · subst hz0
    by_cases hn : 4 < n
    · have hn' : (4 : Int) < n := by omega
      go_enter Try.func39, Try.ntmps39
      go_wp2_with fail
      refine (HC.out _).mono ?_
      rintro e w2 ⟨rfl, hb2⟩
      have HB2 := hid (below_trans ((Below.refl _ w).alloc (Nat.le_refl _) (.cells #[.int .i64 a, .int .i64 b] 41)) hb2 (by simp))
      clear hb2
      go_wp2
      go_ret
      exact ⟨ret_int (by rw [HE.out, if_neg (by simp), if_pos hn]), HB2.out⟩
    · have hn' : ¬ (4 : Int) < n := by omega
      go_enter Try.func39, Try.ntmps39
      go_wp2_with fail
      refine (HC.out _).mono ?_
      rintro e w2 ⟨rfl, hb2⟩
      have HB2 := hid (below_trans ((Below.refl _ w).alloc (Nat.le_refl _) (.cells #[.int .i64 a, .int .i64 b] 41)) hb2 (by simp))
      clear hb2
      go_wp2
      go_loopw [19] (fun i wr => ∃ k : Nat, k ≤ n ∧ i = .int .i64 (k : Nat) ∧ fst (vat l) k = 0 ∧ Below w.heap.size w wr) (fun i _ => n + 1 - (intOf i).toNat)
      case atStart => exact ⟨0, by omega, rfl, rfl, HB2.out⟩
      case round =>
        obtain ⟨k, hk, rfl, hf, hB⟩ := hrel
        have HF : Hid (fst (vat l) k = 0) := hf
        have HB : Hid (Below w.heap.size w wr) := hB
        by_cases hlt : k < n
        · have hkd : k < l.length := by have := HNL.out; omega
          obtain ⟨g, off, hg, hc⟩ := HP.out (by omega)
          obtain ⟨hgs, c0, c1, c2⟩ := hc k hkd
          subst hg
          have HV : Hid (vat l k = vchk l[k]) := vat_at hkd
          obtain ⟨d, hdk⟩ : ∃ d, l[k] = d := ⟨_, rfl⟩
          rw [hdk] at c0 c1 c2 HV
          have b0 : wr.cell? ⟨g, off + k * 3, none⟩ = some (.int .i64 d.k) := (hB.cell (p := ⟨g, off + k * 3, none⟩) hgs).trans c0
          have b1 : wr.cell? ⟨g, off + k * 3 + 1, none⟩ = some (.int .i64 d.n) := (hB.cell (p := ⟨g, off + k * 3 + 1, none⟩) hgs).trans c1
          have b2 : wr.cell? ⟨g, off + k * 3 + 2, none⟩ = some (.string d.s) := (hB.cell (p := ⟨g, off + k * 3 + 2, none⟩) hgs).trans c2
          have i1 : (0 : Int) ≤ (k : Int) := by omega
          have i2 : (k : Int) < (n : Int) := by omega
          have hne : wr.heap.size ≠ g := by have := hB.size; omega
          clear hc hdk c0 c1 c2 hgs hf hB hkd
          obtain ⟨r, hr⟩ : ∃ r, vchk d = r := ⟨_, rfl⟩
          have HR : Hid (vchk d = r) := hr
          clear hr
          by_cases hr0 : r = 0
          · subst hr0
            go_wp2_with (go_at_call 51; refine (check_any ⟨d.k, d.n, d.s⟩ _).mono ?_; rintro e w2 ⟨rfl, hb2⟩; rw [show vchk ⟨d.k, d.n, d.s⟩ = 0 from HR.out]; have HB2 : Hid (Below (wr.alloc (.cells #[.int .i64 d.k, .int .i64 d.n, .string d.s] 73)).heap.size (wr.alloc (.cells #[.int .i64 d.k, .int .i64 d.n, .string d.s] 73)) w2) := hb2; clear hb2)
            go_roundw
            case rel => exact ⟨k + 1, by omega, by go_num, fst_step HF.out (HV.out.trans HR.out), below_trans (HB.out.alloc HB.out.size _) HB2.out (by simp; have := HB.out.size; omega)⟩
            case measure => simp [intOf]; omega
          · have hrb : (r == 0) = false := by simpa using hr0
            have hrd : (r != 0) = true := by simpa using hr0
            go_wp2_with (go_at_call 51; refine (check_any ⟨d.k, d.n, d.s⟩ _).mono ?_; rintro e w2 ⟨rfl, hb2⟩; rw [show vchk ⟨d.k, d.n, d.s⟩ = r from HR.out]; have HB2 : Hid (Below (wr.alloc (.cells #[.int .i64 d.k, .int .i64 d.n, .string d.s] 73)).heap.size (wr.alloc (.cells #[.int .i64 d.k, .int .i64 d.n, .string d.s] 73)) w2) := hb2; clear hb2)
            go_ret
            refine ⟨ret_int ?_, below_trans (HB.out.alloc HB.out.size _) HB2.out (by simp; have := HB.out.size; omega)⟩
            rw [HE.out, if_neg (by simp), if_neg hn, fst_hit HF.out (by rw [HV.out, HR.out]; exact hr0) hlt, HV.out, HR.out]
        · obtain rfl : k = n := by omega
          clear hf hB
          go_wp2
          go_ret
          refine ⟨ret_int ?_, HB.out⟩
          rw [HE.out, if_neg (by simp), if_neg hn]
          exact HF.out.symm
  · have hzb : (z == 0) = false := by simpa using hz0
    have hzd : (z != 0) = true := by simpa using hz0
    go_enter Try.func39, Try.ntmps39
    go_wp2_with fail
    refine (HC.out _).mono ?_
    rintro e w2 ⟨rfl, hb2⟩
    have HB2 := hid (below_trans ((Below.refl _ w).alloc (Nat.le_refl _) (.cells #[.int .i64 a, .int .i64 b] 41)) hb2 (by simp))
    clear hb2
    go_wp2
    go_ret
    exact ⟨ret_int (by rw [HE.out, if_pos hz0]), HB2.out⟩
end Go.Proofs.Ytepgkemnpcadiab
