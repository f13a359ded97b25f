/-
  Words that are kept, as the reference has them. Names are found by their places; single faults, by the reference. Steps of regions that draw their order: a call, an append; a slice of one struct.
-/
import Derived.RegionTactic
import Derived.Deep.RegionLaw
import Derived.Test.YthndlfdbmljkhaaGreatDoorA
namespace Go.Proofs.YthndlfdbmljkhaaGreatDoor
open Go.ChangeShapes Go.WideShapes Go.ChangeAt Go.RowKit
set_option linter.unusedVariables false
set_option linter.unusedSimpArgs false
def rwA : Array Value := (([] :: rll).map fun m => Value.string (txt m)).toArray
def kwA : Array Value := (kpl.map fun m => Value.string (txt m)).toArray
theorem below_tr {n m : Nat} {a b c : World} (h : Below n a b) (k : Below m b c) (hm : n ≤ m) : Below n a c := h.trans (k.mono hm)
set_option maxHeartbeats 2000000 in
theorem relWords_any (w : World) :
  Calls Tryz.prog 120 #[] w fun e w' => e = .returned (.slice (some ⟨w.heap.size, 0, none⟩) 14 14) ∧ Below w.heap.size w w' ∧ ∀ k, k < 14 → w'.cell? ⟨w.heap.size, k, none⟩ = some (.string (txt (([] :: rll).getD k []))) := by
 go_enter Tryz.func120, Tryz.ntmps120
 go_wp2
 go_ret
 refine ⟨rfl, by go_grown, fun k hk => ?_⟩
 show (w.alloc (.cells rwA 9)).cell? ⟨w.heap.size, k, none⟩ = _
 rw [cell_of_row _ _ k rwA 9 (0, 0) (heap_alloc_new _ _)]
 exact tab_at ([] :: rll) k hk
set_option maxHeartbeats 2000000 in
theorem relOf_any (s : ByteArray) (w : World) :
  Calls Tryz.prog 71 #[.string s] w fun e w' => e = .returned (.int .i64 (rln s)) ∧ Below w.heap.size w w' := by
 obtain ⟨r, hr⟩ : ∃ r, rln s = r := ⟨_, rfl⟩
 rw [hr]
 have HR : Hid (plc s.data.toList (rll.drop 0) 0 = r) := hr
 clear hr
 go_enter Tryz.func71, Tryz.ntmps71
 go_wp2_with (go_at_call 120; refine (relWords_any _).mono ?_; rintro e w1 ⟨rfl, hb1, hc1⟩)
 have HB : Hid (Below w.heap.size w w1) := hb1
 have HC : Hid (∀ k, k < 14 → w1.cell? ⟨w.heap.size, k, none⟩ = some (.string (txt (([] :: rll).getD k [])))) := hc1
 clear hb1 hc1
 go_loopw [4] (fun i wr => ∃ k q : Nat, k ≤ 13 ∧ i = .int .i64 (k + 1 : Nat) ∧ wr = w1.drewN q ∧ plc s.data.toList (rll.drop k) k = r) (fun i _ => 14 - (intOf i).toNat)
 case atStart => exact ⟨0, 0, by omega, rfl, rfl, HR.out⟩
 case round =>
  obtain ⟨k, q, hk, rfl, rfl, hf⟩ := hrel
  have HF : Hid (plc s.data.toList (rll.drop k) k = r) := hf
  clear hf
  by_cases hlt : k < 13
  . obtain ⟨x, hx⟩ : ∃ x, txt (rll.getD k []) = x := ⟨_, rfl⟩
    have hck := HC.out (k + 1) (by omega)
    rw [List.getD_cons_succ, hx] at hck
    have hxl : x.toList = rll.getD k [] := by rw [← hx, Lib.toList_data, txt_list]
    obtain ⟨j, hj⟩ : ∃ j, k + 1 = j := ⟨_, rfl⟩
    have HJ : Hid (k + 1 = j) := hj
    rw [hj] at hck ⊢
    have i1 : (0 : Int) ≤ (j : Int) := by omega
    have i2 : (j : Int) < 14 := by omega
    by_cases he : s.data.toList = rll.getD k []
    . have hb : (x.toList == s.toList) = true := by rw [Lib.toList_data s, hxl, he]; simp
      have HE : Hid (s.data.toList = rll.getD k []) := he
      clear he hx hxl hj
      go_wp2
      go_ret
      refine ⟨ret_int' ?_, below_drewN HB.out _⟩
      rw [← HF.out, plc_at _ _ _ _ hlt HE.out, HJ.out]
    . have hb : (x.toList == s.toList) = false := by rw [Lib.toList_data s, hxl]; simpa using fun h : rll.getD k [] = s.data.toList => he h.symm
      have HE : Hid (¬ s.data.toList = rll.getD k []) := he
      clear he hx hxl hj
      go_wp2
      exact ⟨⟨k + 1, _, by omega, by rw [HJ.out]; go_num, rfl, by rw [← plc_no _ _ _ _ hlt HE.out]; exact HF.out⟩, by simp [intOf]; omega⟩
  . obtain rfl : k = 13 := by omega
    go_wp2
    go_ret
    exact ⟨ret_int' (by rw [← HF.out]; rfl), below_drewN HB.out _⟩
set_option maxHeartbeats 2000000 in
theorem keptWord_any (s : ByteArray) (w : World) :
  Calls Tryz.prog 34 #[.string s] w fun e w' => e = .returned (.bool (kpt s)) ∧ Below w.heap.size w w' := by
 obtain ⟨r, hr⟩ : ∃ r, kpt s = r := ⟨_, rfl⟩
 rw [hr]
 have HR : Hid (kpt s = r) := hr
 have HC : Hid (∀ k, k < 17 → (w.alloc (.cells kwA 9)).cell? ⟨w.heap.size, k, none⟩ = some (.string (txt (kpl.getD k [])))) := fun k hk => by
  rw [cell_of_row _ _ k kwA 9 (0, 0) (heap_alloc_new _ _)]
  exact tab_at kpl k hk
 have HB : Hid (Below w.heap.size w (w.alloc (.cells kwA 9))) := by show Below _ _ _; go_grown
 clear hr
 go_enter Tryz.func34, Tryz.ntmps34
 go_wp2_with (fail)
 obtain ⟨w1, hw1⟩ : ∃ w1, w.alloc (.cells kwA 9) = w1 := ⟨_, rfl⟩
 change Go.Code.wp _ _ _ _ (w.alloc (.cells kwA 9))
 rw [hw1] at HC HB ⊢
 clear hw1
 go_loopw [4] (fun i wr => ∃ k q : Nat, k ≤ 17 ∧ i = .int .i64 k ∧ wr = w1.drewN q ∧ s.data.toList ∉ kpl.take k) (fun i _ => 17 - (intOf i).toNat)
 case atStart => exact ⟨0, 0, by omega, rfl, rfl, by simp⟩
 case round =>
  obtain ⟨k, q, hk, rfl, rfl, hf⟩ := hrel
  have HF : Hid (s.data.toList ∉ kpl.take k) := hf
  clear hf
  by_cases hlt : k < 17
  . obtain ⟨x, hx⟩ : ∃ x, txt (kpl.getD k []) = x := ⟨_, rfl⟩
    have hck := HC.out k hlt
    rw [hx] at hck
    have hxl : x.toList = kpl.getD k [] := by rw [← hx, Lib.toList_data, txt_list]
    have i1 : (0 : Int) ≤ (k : Int) := by omega
    have i2 : (k : Int) < 17 := by omega
    by_cases he : s.data.toList = kpl.getD k []
    . have hb : (x.toList == s.toList) = true := by rw [Lib.toList_data s, hxl, he]; simp
      have HE : Hid (s.data.toList = kpl.getD k []) := he
      clear he hx hxl
      go_wp2
      go_ret
      refine ⟨ret_bool ?_, below_drewN HB.out _⟩
      rw [← HR.out, kpt, HE.out, decide_eq_true (getD_in kpl k hlt)]
      rfl
    . have hb : (x.toList == s.toList) = false := by rw [Lib.toList_data s, hxl]; simpa using fun h : kpl.getD k [] = s.data.toList => he h.symm
      have HE : Hid (¬ s.data.toList = kpl.getD k []) := he
      clear he hx hxl
      go_wp2
      exact ⟨⟨k + 1, _, by omega, by go_num, rfl, not_take _ _ k hlt HF.out HE.out⟩, by simp [intOf]; omega⟩
  . obtain rfl : k = 17 := by omega
    obtain ⟨q0, hq⟩ : ∃ q, rln s = q := ⟨_, rfl⟩
    have HC2 : Hid (∀ W, Calls Tryz.prog 71 #[.string s] W fun e w' => e = .returned (.int .i64 q0) ∧ Below W.heap.size W w') := fun W => by
      have := relOf_any s W
      rw [hq] at this
      exact this
    have HQ : Hid (rln s = q0) := hq
    clear hq
    go_wp2_with (go_at_call 71; refine (HC2.out _).mono ?_; rintro e w3 ⟨rfl, hb3⟩; have HB3 : Hid (Below w.heap.size w w3) := below_tr (below_drewN HB.out q) hb3 (below_drewN HB.out q).size; clear hb3)
    go_ret
    refine ⟨ret_bool ?_, HB3.out⟩
    rw [← HR.out, kpt, decide_eq_false (show s.data.toList ∉ kpl from HF.out), Bool.false_or, ← HQ.out]
    have := plc_pos s.data.toList rll 0
    by_cases c : s.data.toList ∈ rll
    . have h2 := this.2 c
      simp only [c, decide_true]
      have h3 : 0 < rln s := by unfold rln; omega
      simpa using h3
    . have h2 : plc s.data.toList rll 0 = 0 := by
       rcases Nat.eq_zero_or_pos (plc s.data.toList rll 0) with h | h
       . exact h
       . exact absurd (this.1 (by omega)) c
      simp [c, rln, h2]
end Go.Proofs.YthndlfdbmljkhaaGreatDoor
namespace Go.Proofs.YthndlfdbmljkhaaGreatDoor.Chk
open Go.ChangeShapes Go.WideShapes Go.ChangeAt Go.RowKit Go.Maps
set_option linter.unusedVariables false
set_option linter.unusedSimpArgs false
set_option maxRecDepth 20000
def seq (a b : ByteArray) : Bool := a.toList == b.toList
def tyq (ts : List Tp) (n : ByteArray) : Int := ixq (fun t => seq t.n n) ts 0
def ptq (l : List Pt) (n : ByteArray) : Int := ixq (fun p => seq p.va n) l 0
def fdq (fs : List Fd) (n : ByteArray) : Int := ixq (fun f => seq f.n n) fs 0
theorem below_drawn {B : Nat} {a w : World} (h : Below B a w) (n : Nat) : Below B a (w.drewN n) := h.trans ⟨rfl, rfl, rfl, Nat.le_refl _, fun _ _ => rfl⟩
set_option maxHeartbeats 8000000 in
theorem typeNamed_any (cs : List Tp) (v : Value) (nm : ByteArray) (w : World) (h : Rd w (.row 72 2 (cs.map encY)) v) :
  Calls Tryz.prog 35 #[v, .string nm] w fun e w' => e = .returned (.int .i64 (tyq cs nm)) ∧ Below w.heap.size w w' := by
 obtain ⟨p, cap, rfl, hmx, hat⟩ := rd_row lenY h
 have HAT : Hid (At encY 2 w p cs) := hat
 obtain ⟨n, hn⟩ : ∃ n, cs.length = n := ⟨_, rfl⟩
 have HN : Hid (cs.length = n) := hn
 rw [hn] at hmx ⊢
 clear h hat hn
 go_enter Tryz.func35, Tryz.ntmps35
 go_wp2_with fail
 go_loopw [5] (fun i wr => ∃ k : Nat, k ≤ n ∧ i = .int .i64 (k : Nat) ∧ (∀ (j : Nat) (hj : j < cs.length), j < k → seq cs[j].n nm = false) ∧ Below w.heap.size w wr) (fun i _ => n + 1 - (intOf i).toNat)
 case atStart => exact ⟨0, by omega, rfl, fun j hj h => by omega, Below.refl _ _⟩
 case round =>
  obtain ⟨k, hk, rfl, hf, hBr⟩ := hrel
  have HF : Hid (∀ (j : Nat) (hj : j < cs.length), j < k → seq cs[j].n nm = false) := hf
  have HBR : Hid (Below w.heap.size w wr) := hBr
  clear hf
  by_cases hlt : k < n
  . have hkc : k < cs.length := by have := HN.out; omega
    obtain ⟨g, off, rfl, hrd⟩ := HAT.out (by omega)
    obtain ⟨us, r1, o1⟩ := hrd wr hBr k hkc
    obtain ⟨vf, z1, o2⟩ := rdY o1
    clear o1 o2
    subst z1
    skip
    have a0 := r1 0 _ rfl
    simp only [Nat.add_zero] at a0
    clear r1
    have hit := ixq_hit (q := fun t : Tp => seq t.n nm) cs 0 k hkc (fun j hj => HF.out j (by omega) hj)
    have HNX : seq cs[k].n nm = false → Hid (∀ (j : Nat) (hj : j < cs.length), j < k + 1 → seq cs[j].n nm = false) := fun hq j hj h => by
      by_cases c : j = k
      . subst c; exact hq
      . exact HF.out j hj (by omega)
    obtain ⟨d, hd⟩ : ∃ d, cs[k].n = d := ⟨_, rfl⟩
    rw [hd] at a0 hit HNX
    have i1 : (0 : Int) ≤ (k : Int) := by omega
    have i2 : (k : Int) < (n : Int) := by omega
    cases hq : seq d nm
    . have HNY := HNX hq
      have hq2 : (d.toList == nm.toList) = false := hq
      clear hit HNX hq hd hrd hBr hkc
      go_wp2_with fail
      go_roundw
      case rel => exact ⟨k + 1, by omega, by go_num, HNY.out, HBR.out⟩
      case measure => simp [intOf]; omega
    . have hres := hit hq
      have HRS : Hid (tyq cs nm = (k : Int)) := by
        show ixq _ _ _ = _
        rw [hres]
        simp
      have hq2 : (d.toList == nm.toList) = true := hq
      clear hit HNX hq hd hrd hBr hkc hres
      go_wp2_with fail
      go_ret
      rw [HRS.out]
      exact ⟨rfl, HBR.out⟩
  . obtain rfl : k = n := by omega
    have HRS : Hid (tyq cs nm = -1) := ixq_none (q := fun t : Tp => seq t.n nm) cs 0 fun x hx => by
      obtain ⟨j, hj, rfl⟩ := List.getElem_of_mem hx
      exact HF.out j hj (by have := HN.out; omega)
    clear hBr
    go_wp2_with fail
    go_ret
    rw [HRS.out]
    exact ⟨rfl, HBR.out⟩
set_option maxHeartbeats 8000000 in
theorem patternNamed_any (cs : List Pt) (v : Value) (nm : ByteArray) (w : World) (h : Rd w (.row 65 18 (cs.map encP)) v) :
  Calls Tryz.prog 94 #[v, .string nm] w fun e w' => e = .returned (.int .i64 (ptq cs nm)) ∧ Below w.heap.size w w' := by
 obtain ⟨p, cap, rfl, hmx, hat⟩ := rd_row lenP h
 have HAT : Hid (At encP 18 w p cs) := hat
 obtain ⟨n, hn⟩ : ∃ n, cs.length = n := ⟨_, rfl⟩
 have HN : Hid (cs.length = n) := hn
 rw [hn] at hmx ⊢
 clear h hat hn
 go_enter Tryz.func94, Tryz.ntmps94
 go_wp2_with fail
 go_loopw [5] (fun i wr => ∃ k : Nat, k ≤ n ∧ i = .int .i64 (k : Nat) ∧ (∀ (j : Nat) (hj : j < cs.length), j < k → seq cs[j].va nm = false) ∧ Below w.heap.size w wr) (fun i _ => n + 1 - (intOf i).toNat)
 case atStart => exact ⟨0, by omega, rfl, fun j hj h => by omega, Below.refl _ _⟩
 case round =>
  obtain ⟨k, hk, rfl, hf, hBr⟩ := hrel
  have HF : Hid (∀ (j : Nat) (hj : j < cs.length), j < k → seq cs[j].va nm = false) := hf
  have HBR : Hid (Below w.heap.size w wr) := hBr
  clear hf
  by_cases hlt : k < n
  . have hkc : k < cs.length := by have := HN.out; omega
    obtain ⟨g, off, rfl, hrd⟩ := HAT.out (by omega)
    obtain ⟨us, r1, o1⟩ := hrd wr hBr k hkc
    obtain ⟨vf, z1, o2⟩ := rdP o1
    clear o1 o2
    subst z1
    skip
    have a0 := r1 0 _ rfl
    simp only [Nat.add_zero] at a0
    clear r1
    have hit := ixq_hit (q := fun t : Pt => seq t.va nm) cs 0 k hkc (fun j hj => HF.out j (by omega) hj)
    have HNX : seq cs[k].va nm = false → Hid (∀ (j : Nat) (hj : j < cs.length), j < k + 1 → seq cs[j].va nm = false) := fun hq j hj h => by
      by_cases c : j = k
      . subst c; exact hq
      . exact HF.out j hj (by omega)
    obtain ⟨d, hd⟩ : ∃ d, cs[k].va = d := ⟨_, rfl⟩
    rw [hd] at a0 hit HNX
    have i1 : (0 : Int) ≤ (k : Int) := by omega
    have i2 : (k : Int) < (n : Int) := by omega
    cases hq : seq d nm
    . have HNY := HNX hq
      have hq2 : (d.toList == nm.toList) = false := hq
      clear hit HNX hq hd hrd hBr hkc
      go_wp2_with fail
      go_roundw
      case rel => exact ⟨k + 1, by omega, by go_num, HNY.out, HBR.out⟩
      case measure => simp [intOf]; omega
    . have hres := hit hq
      have HRS : Hid (ptq cs nm = (k : Int)) := by
        show ixq _ _ _ = _
        rw [hres]
        simp
      have hq2 : (d.toList == nm.toList) = true := hq
      clear hit HNX hq hd hrd hBr hkc hres
      go_wp2_with fail
      go_ret
      rw [HRS.out]
      exact ⟨rfl, HBR.out⟩
  . obtain rfl : k = n := by omega
    have HRS : Hid (ptq cs nm = -1) := ixq_none (q := fun t : Pt => seq t.va nm) cs 0 fun x hx => by
      obtain ⟨j, hj, rfl⟩ := List.getElem_of_mem hx
      exact HF.out j hj (by have := HN.out; omega)
    clear hBr
    go_wp2_with fail
    go_ret
    rw [HRS.out]
    exact ⟨rfl, HBR.out⟩
set_option maxHeartbeats 8000000 in
theorem fieldAt_any (tn : ByteArray) (cs : List Fd) (v : Value) (nm : ByteArray) (w : World) (h : Rd w (.row 93 2 (cs.map encF)) v) :
  Calls Tryz.prog 123 #[.agg #[.string tn, v], .string nm] w fun e w' => e = .returned (.int .i64 (fdq cs nm)) ∧ Below w.heap.size w w' := by
 obtain ⟨p, cap, rfl, hmx, hat⟩ := rd_row lenF h
 have HAT : Hid (At encF 2 w p cs) := hat
 obtain ⟨n, hn⟩ : ∃ n, cs.length = n := ⟨_, rfl⟩
 have HN : Hid (cs.length = n) := hn
 rw [hn] at hmx ⊢
 clear h hat hn
 have HB0 : Hid (Below w.heap.size w (w.alloc (.cells #[.string tn, .slice p n cap] 72)) ∧ (w.alloc (.cells #[.string tn, .slice p n cap] 72)).cell? ⟨w.heap.size, 1, none⟩ = some (.slice p n cap)) := ⟨(Below.refl _ _).alloc (Nat.le_refl _) _, cell_of_blk (heap_alloc_new _ _) 1⟩
 go_enter Tryz.func123, Tryz.ntmps123
 go_wp2_with fail
 go_loopw [5] (fun i wr => ∃ k : Nat, k ≤ n ∧ i = .int .i64 (k : Nat) ∧ (∀ (j : Nat) (hj : j < cs.length), j < k → seq cs[j].n nm = false) ∧ Below w.heap.size w wr ∧ wr.cell? ⟨w.heap.size, 1, none⟩ = some (.slice p n cap)) (fun i _ => n + 1 - (intOf i).toNat)
 case atStart => exact ⟨0, by omega, rfl, fun j hj h => by omega, HB0.out.1, HB0.out.2⟩
 case round =>
  obtain ⟨k, hk, rfl, hf, hBr, hcl⟩ := hrel
  have HF : Hid (∀ (j : Nat) (hj : j < cs.length), j < k → seq cs[j].n nm = false) := hf
  have HBR : Hid (Below w.heap.size w wr ∧ wr.cell? ⟨w.heap.size, 1, none⟩ = some (.slice p n cap)) := ⟨hBr, hcl⟩
  clear hf
  by_cases hlt : k < n
  . have hkc : k < cs.length := by have := HN.out; omega
    obtain ⟨g, off, rfl, hrd⟩ := HAT.out (by omega)
    obtain ⟨us, r1, o1⟩ := hrd wr hBr k hkc
    have z1 := rdF o1
    clear o1
    subst z1
    skip
    have a0 := r1 0 _ rfl
    simp only [Nat.add_zero] at a0
    clear r1
    have hit := ixq_hit (q := fun t : Fd => seq t.n nm) cs 0 k hkc (fun j hj => HF.out j (by omega) hj)
    have HNX : seq cs[k].n nm = false → Hid (∀ (j : Nat) (hj : j < cs.length), j < k + 1 → seq cs[j].n nm = false) := fun hq j hj h => by
      by_cases c : j = k
      . subst c; exact hq
      . exact HF.out j hj (by omega)
    obtain ⟨d, hd⟩ : ∃ d, cs[k].n = d := ⟨_, rfl⟩
    rw [hd] at a0 hit HNX
    have i1 : (0 : Int) ≤ (k : Int) := by omega
    have i2 : (k : Int) < (n : Int) := by omega
    cases hq : seq d nm
    . have HNY := HNX hq
      have hq2 : (d.toList == nm.toList) = false := hq
      clear hit HNX hq hd hrd hBr hkc
      go_wp2_with fail
      go_roundw
      case rel => exact ⟨k + 1, by omega, by go_num, HNY.out, HBR.out.1, HBR.out.2⟩
      case measure => simp [intOf]; omega
    . have hres := hit hq
      have HRS : Hid (fdq cs nm = (k : Int)) := by
        show ixq _ _ _ = _
        rw [hres]
        simp
      have hq2 : (d.toList == nm.toList) = true := hq
      clear hit HNX hq hd hrd hBr hkc hres
      go_wp2_with fail
      go_ret
      rw [HRS.out]
      exact ⟨rfl, HBR.out.1⟩
  . obtain rfl : k = n := by omega
    have HRS : Hid (fdq cs nm = -1) := ixq_none (q := fun t : Fd => seq t.n nm) cs 0 fun x hx => by
      obtain ⟨j, hj, rfl⟩ := List.getElem_of_mem hx
      exact HF.out j hj (by have := HN.out; omega)
    clear hBr
    go_wp2_with fail
    go_ret
    rw [HRS.out]
    exact ⟨rfl, HBR.out.1⟩
def frn (s : ByteArray) : Int := if nchk s = 0 ∧ kpt s = true then 4 else nchk s
set_option maxHeartbeats 4000000 in
theorem freeName_any (s : ByteArray) (w : World) : Calls Tryz.prog 72 #[.string s] w fun e w' => e = .returned (.int .i64 (frn s)) ∧ Below w.heap.size w w' := by
 have H1 : Hid (∀ W, Calls Tryz.prog 70 #[.string s] W fun e w' => e = .returned (.int .i64 (nchk s)) ∧ Below W.heap.size W w') := fun W => (nfault_any s W).mono fun e w' h => ⟨h.1, by rw [h.2]; exact Below.refl _ _⟩
 have H2 : Hid (∀ W, Calls Tryz.prog 34 #[.string s] W fun e w' => e = .returned (.bool (kpt s)) ∧ Below W.heap.size W w') := fun W => (keptWord_any s W).mono fun e w' h => h
 unfold frn
 obtain ⟨r, hr⟩ : ∃ r, nchk s = r := ⟨_, rfl⟩
 obtain ⟨b, hb⟩ : ∃ b, kpt s = b := ⟨_, rfl⟩
 rw [hr] at H1
 rw [hb] at H2
 rw [hr, hb]
 clear hr hb
 by_cases h0 : r = 0
 . subst h0
   cases b
   . rw [if_neg (by simp)]
     go_enter Tryz.func72, Tryz.ntmps72
     go_wp2_with (first
      | (go_at_call 34; refine (H2.out _).mono ?_; rintro e w3 ⟨rfl, hb_⟩; have HB3 : Hid (Below w.heap.size w w3) := below_trans HB2.out hb_ HB2.out.size; clear hb_)
      | (go_at_call 70; refine (H1.out _).mono ?_; rintro e w2 ⟨rfl, hb_⟩; have HB2 : Hid (Below w.heap.size w w2) := hb_; clear hb_))
     go_ret
     exact ⟨rfl, HB3.out⟩
   . rw [if_pos ⟨rfl, rfl⟩]
     go_enter Tryz.func72, Tryz.ntmps72
     go_wp2_with (first
      | (go_at_call 34; refine (H2.out _).mono ?_; rintro e w3 ⟨rfl, hb_⟩; have HB3 : Hid (Below w.heap.size w w3) := below_trans HB2.out hb_ HB2.out.size; clear hb_)
      | (go_at_call 70; refine (H1.out _).mono ?_; rintro e w2 ⟨rfl, hb_⟩; have HB2 : Hid (Below w.heap.size w w2) := hb_; clear hb_))
     go_ret
     exact ⟨rfl, HB3.out⟩
 . rw [if_neg (fun c => h0 c.1)]
   have hr0 : (r == 0) = false := by simpa using h0
   have hr1 : (r != 0) = true := by simpa using h0
   go_enter Tryz.func72, Tryz.ntmps72
   go_wp2_with (first
     | (go_at_call 70; refine (H1.out _).mono ?_; rintro e w2 ⟨rfl, hb_⟩; have HB2 : Hid (Below w.heap.size w w2) := hb_; clear hb_))
   go_ret
   exact ⟨rfl, HB2.out⟩
end Go.Proofs.YthndlfdbmljkhaaGreatDoor.Chk
namespace Go.Proofs.YthndlfdbmljkhaaGreatDoor
open Go.ChangeShapes Go.WideShapes Go.ChangeAt Go.RowKit Go.Maps
set_option linter.unusedVariables false
set_option linter.unusedSimpArgs false
theorem step_call {ops : Array Oper} {o : Oper} {a : Act} {w : World} {K : Act → World → Prop} {Q : Exit → Act → World → Prop} {E : Prop} (f : FuncId) (he : ∀ args w, (callFunc f args).run Tryz.prog w = .ok (.enter f args) w) (hgd : o.guard = none) (s : Operand) (ts : Array TypeId) (ho : o.op = .call { callee := .value (.func f), args := #[s], argTypes := ts }) (u1 : Value) (h1 : a.eval s = u1)
  (R : Ending → World → Prop) (hc : Calls Tryz.prog f #[u1] w R) (h : ∀ e w', R e w' → ∃ v, e = .returned v ∧ K (a.put o.dst v) w') :
  if Region.wanted o (yielded ops a.tmps) = true then Oper.wp Tryz.prog o a w K Q else E := by
 have hw : Region.wanted o (yielded ops a.tmps) = true := by simp [Region.wanted, hgd]
 rw [if_pos hw]
 unfold Oper.wp execOp
 have hf : a.eval (.func f) = Value.func (Fn.func f) #[] #[] := rfl
 simp [ho, resolve, invoke, Deferred.ofValue, hf, h1, he]
 refine hc.mono ?_
 intro e w' hr
 obtain ⟨v, rfl, hk⟩ := h e w' hr
 exact hk
end Go.Proofs.YthndlfdbmljkhaaGreatDoor
