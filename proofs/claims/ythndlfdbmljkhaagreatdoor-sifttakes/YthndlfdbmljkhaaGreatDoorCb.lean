/-
  Names are found by their places; single faults, by the reference.
-/
import Derived.Test.YthndlfdbmljkhaaGreatDoorCa
import Derived.Test.YthndlfdbmljkhaaGreatDoorKR
namespace Go.Proofs.YthndlfdbmljkhaaGreatDoor.Chk
open Go.ChangeShapes Go.WideShapes Go.ChangeAt Go.RowKit Go.Maps
set_option linter.unusedVariables false
set_option linter.unusedSimpArgs false
set_option maxRecDepth 20000
/-- Are two texts the same? -/
def seq (a b : ByteArray) : Bool := a.toList == b.toList
def tyq (ts : List Tp) (n : ByteArray) : Int := ixq (fun t => seq t.n n) ts 0
def ptq (l : List Pt) (n : ByteArray) : Int := ixq (fun p => seq p.va n) l 0
def fdq (fs : List Fd) (n : ByteArray) : Int := ixq (fun f => seq f.n n) fs 0
theorem below_drawn {B : Nat} {a w : World} (h : Below B a w) (n : Nat) : Below B a (w.drewN n) := h.trans ⟨rfl, rfl, rfl, Nat.le_refl _, fun _ _ => rfl⟩
set_option maxHeartbeats 8000000 in
theorem typeNamed_any (cs : List Tp) (v : Value) (nm : ByteArray) (w : World) (h : Rd w (.row 72 2 (cs.map encY)) v) :
    Calls Tryz.prog 35 #[v, .string nm] w fun e w' => e = .returned (.int .i64 (tyq cs nm)) ∧ Below w.heap.size w w' := by
  obtain ⟨p, cap, rfl, hmx, hat⟩ := rd_row lenY h
  have HAT : Hid (At encY 2 w p cs) := hat
  obtain ⟨n, hn⟩ : ∃ n, cs.length = n := ⟨_, rfl⟩
  have HN : Hid (cs.length = n) := hn
  rw [hn] at hmx ⊢
  clear h hat hn
  go_enter Tryz.func35, Tryz.ntmps35
  go_wp2_with fail
  go_loopw [5] (fun i wr => ∃ k : Nat, k ≤ n ∧ i = .int .i64 (k : Nat) ∧ (∀ (j : Nat) (hj : j < cs.length), j < k → seq cs[j].n nm = false) ∧ Below w.heap.size w wr) (fun i _ => n + 1 - (intOf i).toNat)
  case atStart => exact ⟨0, by omega, rfl, fun j hj h => by omega, Below.refl _ _⟩
  case round =>
    obtain ⟨k, hk, rfl, hf, hBr⟩ := hrel
    have HF : Hid (∀ (j : Nat) (hj : j < cs.length), j < k → seq cs[j].n nm = false) := hf
    have HBR : Hid (Below w.heap.size w wr) := hBr
    clear hf
    by_cases hlt : k < n
    · have hkc : k < cs.length := by have := HN.out; omega
      obtain ⟨g, off, rfl, hrd⟩ := HAT.out (by omega)
      obtain ⟨us, r1, o1⟩ := hrd wr hBr k hkc
      obtain ⟨vf, z1, o2⟩ := rdY o1
      clear o1 o2
      subst z1
      skip
      have a0 := r1 0 _ rfl
      simp only [Nat.add_zero] at a0
      clear r1
      have hit := ixq_hit (q := fun t : Tp => seq t.n nm) cs 0 k hkc (fun j hj => HF.out j (by omega) hj)
      have HNX : seq cs[k].n nm = false → Hid (∀ (j : Nat) (hj : j < cs.length), j < k + 1 → seq cs[j].n nm = false) := fun hq j hj h => by
        by_cases c : j = k
        · subst c; exact hq
        · exact HF.out j hj (by omega)
      obtain ⟨d, hd⟩ : ∃ d, cs[k].n = d := ⟨_, rfl⟩
      rw [hd] at a0 hit HNX
      have i1 : (0 : Int) ≤ (k : Int) := by omega
      have i2 : (k : Int) < (n : Int) := by omega
      cases hq : seq d nm
      · have HNY := HNX hq
        have hq2 : (d.toList == nm.toList) = false := hq
        clear hit HNX hq hd hrd hBr hkc
        go_wp2_with fail
        go_roundw
        case rel => exact ⟨k + 1, by omega, by go_num, HNY.out, HBR.out⟩
        case measure => simp [intOf]; omega
      · have hres := hit hq
        have HRS : Hid (tyq cs nm = (k : Int)) := by
          show ixq _ _ _ = _
          rw [hres]
          simp
        have hq2 : (d.toList == nm.toList) = true := hq
        clear hit HNX hq hd hrd hBr hkc hres
        go_wp2_with fail
        go_ret
        rw [HRS.out]
        exact ⟨rfl, HBR.out⟩
    · obtain rfl : k = n := by omega
      have HRS : Hid (tyq cs nm = -1) := ixq_none (q := fun t : Tp => seq t.n nm) cs 0 fun x hx => by
        obtain ⟨j, hj, rfl⟩ := List.getElem_of_mem hx
        exact HF.out j hj (by have := HN.out; omega)
      clear hBr
      go_wp2_with fail
      go_ret
      rw [HRS.out]
      exact ⟨rfl, HBR.out⟩
set_option maxHeartbeats 8000000 in
theorem patternNamed_any (cs : List Pt) (v : Value) (nm : ByteArray) (w : World) (h : Rd w (.row 65 18 (cs.map encP)) v) :
    Calls Tryz.prog 94 #[v, .string nm] w fun e w' => e = .returned (.int .i64 (ptq cs nm)) ∧ Below w.heap.size w w' := by
  obtain ⟨p, cap, rfl, hmx, hat⟩ := rd_row lenP h
  have HAT : Hid (At encP 18 w p cs) := hat
  obtain ⟨n, hn⟩ : ∃ n, cs.length = n := ⟨_, rfl⟩
  have HN : Hid (cs.length = n) := hn
  rw [hn] at hmx ⊢
  clear h hat hn
  go_enter Tryz.func94, Tryz.ntmps94
  go_wp2_with fail
  go_loopw [5] (fun i wr => ∃ k : Nat, k ≤ n ∧ i = .int .i64 (k : Nat) ∧ (∀ (j : Nat) (hj : j < cs.length), j < k → seq cs[j].va nm = false) ∧ Below w.heap.size w wr) (fun i _ => n + 1 - (intOf i).toNat)
  case atStart => exact ⟨0, by omega, rfl, fun j hj h => by omega, Below.refl _ _⟩
  case round =>
    obtain ⟨k, hk, rfl, hf, hBr⟩ := hrel
    have HF : Hid (∀ (j : Nat) (hj : j < cs.length), j < k → seq cs[j].va nm = false) := hf
    have HBR : Hid (Below w.heap.size w wr) := hBr
    clear hf
    by_cases hlt : k < n
    · have hkc : k < cs.length := by have := HN.out; omega
      obtain ⟨g, off, rfl, hrd⟩ := HAT.out (by omega)
      obtain ⟨us, r1, o1⟩ := hrd wr hBr k hkc
      obtain ⟨vf, z1, o2⟩ := rdP o1
      clear o1 o2
      subst z1
      skip
      have a0 := r1 0 _ rfl
      simp only [Nat.add_zero] at a0
      clear r1
      have hit := ixq_hit (q := fun t : Pt => seq t.va nm) cs 0 k hkc (fun j hj => HF.out j (by omega) hj)
      have HNX : seq cs[k].va nm = false → Hid (∀ (j : Nat) (hj : j < cs.length), j < k + 1 → seq cs[j].va nm = false) := fun hq j hj h => by
        by_cases c : j = k
        · subst c; exact hq
        · exact HF.out j hj (by omega)
      obtain ⟨d, hd⟩ : ∃ d, cs[k].va = d := ⟨_, rfl⟩
      rw [hd] at a0 hit HNX
      have i1 : (0 : Int) ≤ (k : Int) := by omega
      have i2 : (k : Int) < (n : Int) := by omega
      cases hq : seq d nm
      · have HNY := HNX hq
        have hq2 : (d.toList == nm.toList) = false := hq
        clear hit HNX hq hd hrd hBr hkc
        go_wp2_with fail
        go_roundw
        case rel => exact ⟨k + 1, by omega, by go_num, HNY.out, HBR.out⟩
        case measure => simp [intOf]; omega
      · have hres := hit hq
        have HRS : Hid (ptq cs nm = (k : Int)) := by
          show ixq _ _ _ = _
          rw [hres]
          simp
        have hq2 : (d.toList == nm.toList) = true := hq
        clear hit HNX hq hd hrd hBr hkc hres
        go_wp2_with fail
        go_ret
        rw [HRS.out]
        exact ⟨rfl, HBR.out⟩
    · obtain rfl : k = n := by omega
      have HRS : Hid (ptq cs nm = -1) := ixq_none (q := fun t : Pt => seq t.va nm) cs 0 fun x hx => by
        obtain ⟨j, hj, rfl⟩ := List.getElem_of_mem hx
        exact HF.out j hj (by have := HN.out; omega)
      clear hBr
      go_wp2_with fail
      go_ret
      rw [HRS.out]
      exact ⟨rfl, HBR.out⟩
set_option maxHeartbeats 8000000 in
theorem fieldAt_any (tn : ByteArray) (cs : List Fd) (v : Value) (nm : ByteArray) (w : World) (h : Rd w (.row 93 2 (cs.map encF)) v) :
    Calls Tryz.prog 123 #[.agg #[.string tn, v], .string nm] w fun e w' => e = .returned (.int .i64 (fdq cs nm)) ∧ Below w.heap.size w w' := by
  obtain ⟨p, cap, rfl, hmx, hat⟩ := rd_row lenF h
  have HAT : Hid (At encF 2 w p cs) := hat
  obtain ⟨n, hn⟩ : ∃ n, cs.length = n := ⟨_, rfl⟩
  have HN : Hid (cs.length = n) := hn
  rw [hn] at hmx ⊢
  clear h hat hn
  have HB0 : Hid (Below w.heap.size w (w.alloc (.cells #[.string tn, .slice p n cap] 72)) ∧ (w.alloc (.cells #[.string tn, .slice p n cap] 72)).cell? ⟨w.heap.size, 1, none⟩ = some (.slice p n cap)) := ⟨(Below.refl _ _).alloc (Nat.le_refl _) _, cell_of_blk (heap_alloc_new _ _) 1⟩
  go_enter Tryz.func123, Tryz.ntmps123
  go_wp2_with fail
  go_loopw [5] (fun i wr => ∃ k : Nat, k ≤ n ∧ i = .int .i64 (k : Nat) ∧ (∀ (j : Nat) (hj : j < cs.length), j < k → seq cs[j].n nm = false) ∧ Below w.heap.size w wr ∧ wr.cell? ⟨w.heap.size, 1, none⟩ = some (.slice p n cap)) (fun i _ => n + 1 - (intOf i).toNat)
  case atStart => exact ⟨0, by omega, rfl, fun j hj h => by omega, HB0.out.1, HB0.out.2⟩
  case round =>
    obtain ⟨k, hk, rfl, hf, hBr, hcl⟩ := hrel
    have HF : Hid (∀ (j : Nat) (hj : j < cs.length), j < k → seq cs[j].n nm = false) := hf
    have HBR : Hid (Below w.heap.size w wr ∧ wr.cell? ⟨w.heap.size, 1, none⟩ = some (.slice p n cap)) := ⟨hBr, hcl⟩
    clear hf
    by_cases hlt : k < n
    · have hkc : k < cs.length := by have := HN.out; omega
      obtain ⟨g, off, rfl, hrd⟩ := HAT.out (by omega)
      obtain ⟨us, r1, o1⟩ := hrd wr hBr k hkc
      have z1 := rdF o1
      clear o1
      subst z1
      skip
      have a0 := r1 0 _ rfl
      simp only [Nat.add_zero] at a0
      clear r1
      have hit := ixq_hit (q := fun t : Fd => seq t.n nm) cs 0 k hkc (fun j hj => HF.out j (by omega) hj)
      have HNX : seq cs[k].n nm = false → Hid (∀ (j : Nat) (hj : j < cs.length), j < k + 1 → seq cs[j].n nm = false) := fun hq j hj h => by
        by_cases c : j = k
        · subst c; exact hq
        · exact HF.out j hj (by omega)
      obtain ⟨d, hd⟩ : ∃ d, cs[k].n = d := ⟨_, rfl⟩
      rw [hd] at a0 hit HNX
      have i1 : (0 : Int) ≤ (k : Int) := by omega
      have i2 : (k : Int) < (n : Int) := by omega
      cases hq : seq d nm
      · have HNY := HNX hq
        have hq2 : (d.toList == nm.toList) = false := hq
        clear hit HNX hq hd hrd hBr hkc
        go_wp2_with fail
        go_roundw
        case rel => exact ⟨k + 1, by omega, by go_num, HNY.out, HBR.out.1, HBR.out.2⟩
        case measure => simp [intOf]; omega
      · have hres := hit hq
        have HRS : Hid (fdq cs nm = (k : Int)) := by
          show ixq _ _ _ = _
          rw [hres]
          simp
        have hq2 : (d.toList == nm.toList) = true := hq
        clear hit HNX hq hd hrd hBr hkc hres
        go_wp2_with fail
        go_ret
        rw [HRS.out]
        exact ⟨rfl, HBR.out.1⟩
    · obtain rfl : k = n := by omega
      have HRS : Hid (fdq cs nm = -1) := ixq_none (q := fun t : Fd => seq t.n nm) cs 0 fun x hx => by
        obtain ⟨j, hj, rfl⟩ := List.getElem_of_mem hx
        exact HF.out j hj (by have := HN.out; omega)
      clear hBr
      go_wp2_with fail
      go_ret
      rw [HRS.out]
      exact ⟨rfl, HBR.out.1⟩
/-- A name that may be given to something. -/
def frn (s : ByteArray) : Int := if nchk s = 0 ∧ kpt s = true then 4 else nchk s
set_option maxHeartbeats 4000000 in
theorem freeName_any (s : ByteArray) (w : World) : Calls Tryz.prog 72 #[.string s] w fun e w' => e = .returned (.int .i64 (frn s)) ∧ Below w.heap.size w w' := by
  have H1 : Hid (∀ W, Calls Tryz.prog 70 #[.string s] W fun e w' => e = .returned (.int .i64 (nchk s)) ∧ Below W.heap.size W w') := fun W => (nfault_any s W).mono fun e w' h => ⟨h.1, by rw [h.2]; exact Below.refl _ _⟩
  have H2 : Hid (∀ W, Calls Tryz.prog 34 #[.string s] W fun e w' => e = .returned (.bool (kpt s)) ∧ Below W.heap.size W w') := fun W => (keptWord_any s W).mono fun e w' h => h
  unfold frn
  obtain ⟨r, hr⟩ : ∃ r, nchk s = r := ⟨_, rfl⟩
  obtain ⟨b, hb⟩ : ∃ b, kpt s = b := ⟨_, rfl⟩
  rw [hr] at H1
  rw [hb] at H2
  rw [hr, hb]
  clear hr hb
  by_cases h0 : r = 0
  · subst h0
    cases b
    · rw [if_neg (by simp)]
      go_enter Tryz.func72, Tryz.ntmps72
      go_wp2_with (first
        | (go_at_call 34; refine (H2.out _).mono ?_; rintro e w3 ⟨rfl, hb_⟩; have HB3 : Hid (Below w.heap.size w w3) := below_trans HB2.out hb_ HB2.out.size; clear hb_)
        | (go_at_call 70; refine (H1.out _).mono ?_; rintro e w2 ⟨rfl, hb_⟩; have HB2 : Hid (Below w.heap.size w w2) := hb_; clear hb_))
      go_ret
      exact ⟨rfl, HB3.out⟩
    · rw [if_pos ⟨rfl, rfl⟩]
      go_enter Tryz.func72, Tryz.ntmps72
      go_wp2_with (first
        | (go_at_call 34; refine (H2.out _).mono ?_; rintro e w3 ⟨rfl, hb_⟩; have HB3 : Hid (Below w.heap.size w w3) := below_trans HB2.out hb_ HB2.out.size; clear hb_)
        | (go_at_call 70; refine (H1.out _).mono ?_; rintro e w2 ⟨rfl, hb_⟩; have HB2 : Hid (Below w.heap.size w w2) := hb_; clear hb_))
      go_ret
      exact ⟨rfl, HB3.out⟩
  · rw [if_neg (fun c => h0 c.1)]
    have hr0 : (r == 0) = false := by simpa using h0
    have hr1 : (r != 0) = true := by simpa using h0
    go_enter Tryz.func72, Tryz.ntmps72
    go_wp2_with (first
      | (go_at_call 70; refine (H1.out _).mono ?_; rintro e w2 ⟨rfl, hb_⟩; have HB2 : Hid (Below w.heap.size w w2) := hb_; clear hb_))
    go_ret
    exact ⟨rfl, HB2.out⟩
end Go.Proofs.YthndlfdbmljkhaaGreatDoor.Chk
