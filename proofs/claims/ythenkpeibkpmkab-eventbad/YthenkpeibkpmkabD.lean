/-
  What checkAll says of values, one by one.
-/
import Derived.Test.YthenkpeibkpmkabC
namespace Go.Proofs.Ythenkpeibkpmkab
open Go.ChangeShapes Go.WideShapes Go.ChangeAt Go.RowKit
set_option linter.unusedVariables false
set_option linter.unusedSimpArgs false
theorem vat_at {l : List Vl} {k : Nat} (h : k < l.length) : vat l k = vchk l[k] := by unfold vat; rw [List.getElem?_eq_getElem h]
set_option maxHeartbeats 4000000 in
theorem checkAll_any (v : Value) (l : List Vl) (w : World) (hv : ValsAt w v l) :
    Calls Try.prog 25 #[v] w fun e w' => e = .returned (.int .i64 (fst (vat l) l.length)) ∧ Below w.heap.size w w' := by
  obtain ⟨p, cap, rfl, hcap, hmax, hp⟩ := hv
  obtain ⟨n, hnl⟩ : ∃ n, l.length = n := ⟨_, rfl⟩
  have HP : Hid (0 < l.length → ∃ g off, p = some ⟨g, off, none⟩ ∧ ∀ j (hj : j < l.length), g < w.heap.size ∧ w.cell? ⟨g, off + j * 3, none⟩ = some (.int .i64 l[j].k) ∧ w.cell? ⟨g, off + j * 3 + 1, none⟩ = some (.int .i64 l[j].n) ∧ w.cell? ⟨g, off + j * 3 + 2, none⟩ = some (.string l[j].s)) := hp
  have HNL : Hid (l.length = n) := hnl
  have hmx : (n : Int) ≤ 9223372036854775807 := by unfold maxLen at hmax; omega
  rw [hnl]
  clear hp hnl hcap hmax
  go_enter Try.func25, Try.ntmps25
  go_wp2
  go_loopw [8] (fun i wr => ∃ k : Nat, k ≤ n ∧ i = .int .i64 (k : Nat) ∧ fst (vat l) k = 0 ∧ Below w.heap.size w wr) (fun i _ => n + 1 - (intOf i).toNat)
  case atStart => exact ⟨0, by omega, rfl, rfl, Below.refl _ _⟩
  case round =>
    obtain ⟨k, hk, rfl, hf, hB⟩ := hrel
    have HF : Hid (fst (vat l) k = 0) := hf
    have HB : Hid (Below w.heap.size w wr) := hB
    by_cases hlt : k < n
    · have hkd : k < l.length := by have := HNL.out; omega
      obtain ⟨g, off, hg, hc⟩ := HP.out (by omega)
      obtain ⟨hgs, c0, c1, c2⟩ := hc k hkd
      subst hg
      have HV : Hid (vat l k = vchk l[k]) := vat_at hkd
      obtain ⟨d, hdk⟩ : ∃ d, l[k] = d := ⟨_, rfl⟩
      rw [hdk] at c0 c1 c2 HV
      have b0 : wr.cell? ⟨g, off + k * 3, none⟩ = some (.int .i64 d.k) := (hB.cell (p := ⟨g, off + k * 3, none⟩) hgs).trans c0
      have b1 : wr.cell? ⟨g, off + k * 3 + 1, none⟩ = some (.int .i64 d.n) := (hB.cell (p := ⟨g, off + k * 3 + 1, none⟩) hgs).trans c1
      have b2 : wr.cell? ⟨g, off + k * 3 + 2, none⟩ = some (.string d.s) := (hB.cell (p := ⟨g, off + k * 3 + 2, none⟩) hgs).trans c2
      have i1 : (0 : Int) ≤ (k : Int) := by omega
      have i2 : (k : Int) < (n : Int) := by omega
      have hne : wr.heap.size ≠ g := by have := hB.size; omega
      clear hc hdk c0 c1 c2 hgs hf hB hkd
      obtain ⟨r, hr⟩ : ∃ r, vchk d = r := ⟨_, rfl⟩
      have HR : Hid (vchk d = r) := hr
      clear hr
      by_cases hr0 : r = 0
      · subst hr0
        go_wp2_with (go_at_call 37; refine (check_any ⟨d.k, d.n, d.s⟩ _).mono ?_; rintro e w2 ⟨rfl, hb2⟩; rw [show vchk ⟨d.k, d.n, d.s⟩ = 0 from HR.out]; have HB2 : Hid (Below (wr.alloc (.cells #[.int .i64 d.k, .int .i64 d.n, .string d.s] 32)).heap.size (wr.alloc (.cells #[.int .i64 d.k, .int .i64 d.n, .string d.s] 32)) w2) := hb2; clear hb2)
        go_roundw
        case rel => exact ⟨k + 1, by omega, by go_num, fst_step HF.out (HV.out.trans HR.out), below_trans (HB.out.alloc HB.out.size _) HB2.out (by simp; have := HB.out.size; omega)⟩
        case measure => simp [intOf]; omega
      · have hrb : (r == 0) = false := by simpa using hr0
        have hrd : (r != 0) = true := by simpa using hr0
        go_wp2_with (go_at_call 37; refine (check_any ⟨d.k, d.n, d.s⟩ _).mono ?_; rintro e w2 ⟨rfl, hb2⟩; rw [show vchk ⟨d.k, d.n, d.s⟩ = r from HR.out]; have HB2 : Hid (Below (wr.alloc (.cells #[.int .i64 d.k, .int .i64 d.n, .string d.s] 32)).heap.size (wr.alloc (.cells #[.int .i64 d.k, .int .i64 d.n, .string d.s] 32)) w2) := hb2; clear hb2)
        go_ret
        refine ⟨ret_int ?_, below_trans (HB.out.alloc HB.out.size _) HB2.out (by simp; have := HB.out.size; omega)⟩
        rw [fst_hit HF.out (by rw [HV.out, HR.out]; exact hr0) (by have := HNL.out; omega), HV.out, HR.out]
    · obtain rfl : k = n := by omega
      clear hf hB
      go_wp2
      go_ret
      refine ⟨ret_int ?_, HB.out⟩
      exact HF.out.symm
end Go.Proofs.Ythenkpeibkpmkab
