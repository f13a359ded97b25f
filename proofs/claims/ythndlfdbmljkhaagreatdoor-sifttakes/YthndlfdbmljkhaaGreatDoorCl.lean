/-
  Does a rule speak of a type? By the reference.
-/
import Derived.Test.YthndlfdbmljkhaaGreatDoorCi
import Derived.Test.YthndlfdbmljkhaaGreatDoorCe
namespace Go.Proofs.YthndlfdbmljkhaaGreatDoor.Chk
open Go.ChangeShapes Go.WideShapes Go.ChangeAt Go.RowKit Go.Maps
set_option linter.unusedVariables false
set_option linter.unusedSimpArgs false
set_option maxRecDepth 20000
theorem rdM {w : World} {m : Mn} {vs : List Value} (h : RdL w (encM m) vs) : ∃ us, vs = .int .i64 m.c :: .string m.f :: us ∧ RdL w (encP m.p) us := by
  obtain ⟨v0, r0, rfl, h0, h⟩ := RdL.one h
  obtain ⟨v1, r1, rfl, h1, h⟩ := RdL.one h
  rw [rd_lit h0, rd_lit h1]
  exact ⟨r1, rfl, h⟩
/-- Has a rule a pattern of a type? -/
def spk (ws ns : List Pt) (ms : List Mn) (n : ByteArray) : Bool := ws.any (fun p => seq p.ty n) || ns.any (fun p => seq p.ty n) || ms.any (fun m => seq m.p.ty n)
theorem any_none {α : Type} {q : α → Bool} {l : List α} (h : ∀ j (hj : j < l.length), q l[j] = false) : l.any q = false := by
  rw [List.any_eq_false]
  intro x hx
  obtain ⟨j, hj, rfl⟩ := List.getElem_of_mem hx
  rw [h j hj]
  decide
theorem any_some {α : Type} {q : α → Bool} {l : List α} {j : Nat} (hj : j < l.length) (h : q l[j] = true) : l.any q = true := List.any_eq_true.2 ⟨_, List.getElem_mem hj, h⟩
set_option maxHeartbeats 16000000 in
theorem speaksOf_any (ws ns : List Pt) (ms : List Mn) (rn ety nm : ByteArray) (u1 u2 u3 : Value) (q4 q5 : Option Addr) (l4 l5 j4 j5 : Nat) (w : World) (h1 : Rd w (.row 65 18 (ws.map encP)) u1) (h2 : Rd w (.row 65 18 (ns.map encP)) u2) (h3 : Rd w (.row 68 20 (ms.map encM)) u3) :
    Calls Tryz.prog 77 #[.agg #[.string rn, u1, u2, u3, (.slice q4 l4 j4), .string ety, (.slice q5 l5 j5)], .string nm] w fun e w' => e = .returned (.bool (spk ws ns ms nm)) ∧ Below w.heap.size w w' := by
  obtain ⟨q1, j1, e1, m1, a1⟩ := rd_row lenP h1
  obtain ⟨q2, j2, e2, m2, a2⟩ := rd_row lenP h2
  obtain ⟨q3, j3, e3, m3, a3⟩ := rd_row lenM h3
  subst e1 e2 e3
  obtain ⟨l1, hl1⟩ : ∃ l, ws.length = l := ⟨_, rfl⟩
  obtain ⟨l2, hl2⟩ : ∃ l, ns.length = l := ⟨_, rfl⟩
  obtain ⟨l3, hl3⟩ : ∃ l, ms.length = l := ⟨_, rfl⟩
  have HA1 := hid a1
  have HA2 := hid a2
  have HA3 := hid a3
  have HN1 := hid hl1
  have HN2 := hid hl2
  have HN3 := hid hl3
  rw [hl1] at m1
  rw [hl2] at m2
  rw [hl3] at m3
  rw [hl1, hl2, hl3]
  have HB0 : Hid (BlkT w (w.alloc (.cells [.string rn, (.slice q1 l1 j1), (.slice q2 l2 j2), (.slice q3 l3 j3), (.slice q4 l4 j4), .string ety, (.slice q5 l5 j5)].toArray 49)) [.string rn, (.slice q1 l1 j1), (.slice q2 l2 j2), (.slice q3 l3 j3), (.slice q4 l4 j4), .string ety, (.slice q5 l5 j5)] 49) := BlkT.start w _ _
  clear h1 h2 h3 a1 a2 a3 hl1 hl2 hl3
  go_enter Tryz.func77, Tryz.ntmps77
  go_wp2_with fail
  go_loopw [5] (fun i wr => ∃ k : Nat, k ≤ l1 ∧ i = .int .i64 (k : Nat) ∧ (∀ (j : Nat) (hj : j < ws.length), j < k → seq ws[j].ty nm = false) ∧ BlkT w wr [.string rn, (.slice q1 l1 j1), (.slice q2 l2 j2), (.slice q3 l3 j3), (.slice q4 l4 j4), .string ety, (.slice q5 l5 j5)] 49) (fun i _ => l1 + 1 - (intOf i).toNat)
  case atStart => exact ⟨0, by omega, rfl, fun j hj h => by omega, HB0.out⟩
  case round =>
    obtain ⟨k, hk, rfl, hf, hTr⟩ := hrel
    have HF := hid hf
    have HTa : Hid (BlkT w wr [.string rn, (.slice q1 l1 j1), (.slice q2 l2 j2), (.slice q3 l3 j3), (.slice q4 l4 j4), .string ety, (.slice q5 l5 j5)] 49) := hTr
    have a1 : wr.cell? ⟨w.heap.size, 1, none⟩ = some (.slice q1 l1 j1) := hTr.c 1
    clear hf
    by_cases hlt : k < l1
    · have hkc : k < ws.length := by have := HN1.out; omega
      obtain ⟨g, off, hp, hrd⟩ := HA1.out (by omega)
      rw [hp] at a1
      obtain ⟨us, r1, o1⟩ := hrd wr hTr.bel k hkc
      obtain ⟨vf, z1, o2⟩ := rdP o1
      clear o1 o2
      subst z1
      have n1 := r1 1 _ rfl
      have HNX : seq ws[k].ty nm = false → Hid (∀ (j : Nat) (hj : j < ws.length), j < k + 1 → seq ws[j].ty nm = false) := fun hq j hj h => by
        by_cases c : j = k
        · subst c; exact hq
        · exact HF.out j hj (by omega)
      have HHT : seq ws[k].ty nm = true → Hid (spk ws ns ms nm = true) := fun hq => by
        show _ = _
        unfold spk
        rw [any_some (l := ws) (q := fun p => seq p.ty nm) hkc hq]
        simp
      obtain ⟨d, hd⟩ : ∃ d, ws[k].ty = d := ⟨_, rfl⟩
      rw [hd] at n1 HNX HHT
      have i1 : (0 : Int) ≤ (k : Int) := by omega
      have i2 : (k : Int) < (l1 : Int) := by omega
      cases hq : seq d nm
      · have HNY := HNX hq
        have hq2 : (d.toList == nm.toList) = false := hq
        clear HNX HHT hq hd hrd hTr hkc r1 hp
        go_wp2_with fail
        go_roundw
        case rel => exact ⟨k + 1, by omega, by go_num, HNY.out, HTa.out⟩
        case measure => simp [intOf]; omega
      · have HR0 := HHT hq
        have hq2 : (d.toList == nm.toList) = true := hq
        clear HNX HHT hq hd hrd hTr hkc r1 hp
        go_wp2_with fail
        go_ret
        rw [HR0.out]
        exact ⟨rfl, HTa.out.bel⟩
    · obtain rfl : l1 = k := by omega
      have HAa : Hid (∀ (j : Nat) (hj : j < ws.length), seq ws[j].ty nm = false) := fun j hj => HF.out j hj (by have := HN1.out; omega)
      clear hTr HF
      go_wp2_with fail
      go_loopw [6] (fun i wr => ∃ k : Nat, k ≤ l2 ∧ i = .int .i64 (k : Nat) ∧ (∀ (j : Nat) (hj : j < ns.length), j < k → seq ns[j].ty nm = false) ∧ BlkT w wr [.string rn, (.slice q1 l1 j1), (.slice q2 l2 j2), (.slice q3 l3 j3), (.slice q4 l4 j4), .string ety, (.slice q5 l5 j5)] 49) (fun i _ => l2 + 1 - (intOf i).toNat)
      case atStart => exact ⟨0, by omega, rfl, fun j hj h => by omega, HTa.out⟩
      case round =>
        obtain ⟨k, hk, rfl, hf, hTr⟩ := hrel
        have HF := hid hf
        have HTb : Hid (BlkT w wr [.string rn, (.slice q1 l1 j1), (.slice q2 l2 j2), (.slice q3 l3 j3), (.slice q4 l4 j4), .string ety, (.slice q5 l5 j5)] 49) := hTr
        have a1 : wr.cell? ⟨w.heap.size, 2, none⟩ = some (.slice q2 l2 j2) := hTr.c 2
        clear hf
        by_cases hlt : k < l2
        · have hkc : k < ns.length := by have := HN2.out; omega
          obtain ⟨g, off, hp, hrd⟩ := HA2.out (by omega)
          rw [hp] at a1
          obtain ⟨us, r1, o1⟩ := hrd wr hTr.bel k hkc
          obtain ⟨vf, z1, o2⟩ := rdP o1
          clear o1 o2
          subst z1
          have n1 := r1 1 _ rfl
          have HNX : seq ns[k].ty nm = false → Hid (∀ (j : Nat) (hj : j < ns.length), j < k + 1 → seq ns[j].ty nm = false) := fun hq j hj h => by
            by_cases c : j = k
            · subst c; exact hq
            · exact HF.out j hj (by omega)
          have HHT : seq ns[k].ty nm = true → Hid (spk ws ns ms nm = true) := fun hq => by
            show _ = _
            unfold spk
            rw [any_some (l := ns) (q := fun p => seq p.ty nm) hkc hq]
            simp
          obtain ⟨d, hd⟩ : ∃ d, ns[k].ty = d := ⟨_, rfl⟩
          rw [hd] at n1 HNX HHT
          have i1 : (0 : Int) ≤ (k : Int) := by omega
          have i2 : (k : Int) < (l2 : Int) := by omega
          cases hq : seq d nm
          · have HNY := HNX hq
            have hq2 : (d.toList == nm.toList) = false := hq
            clear HNX HHT hq hd hrd hTr hkc r1 hp
            go_wp2_with fail
            go_roundw
            case rel => exact ⟨k + 1, by omega, by go_num, HNY.out, HTb.out⟩
            case measure => simp [intOf]; omega
          · have HR0 := HHT hq
            have hq2 : (d.toList == nm.toList) = true := hq
            clear HNX HHT hq hd hrd hTr hkc r1 hp
            go_wp2_with fail
            go_ret
            rw [HR0.out]
            exact ⟨rfl, HTb.out.bel⟩
        · obtain rfl : l2 = k := by omega
          have HAb : Hid (∀ (j : Nat) (hj : j < ns.length), seq ns[j].ty nm = false) := fun j hj => HF.out j hj (by have := HN2.out; omega)
          clear hTr HF
          go_wp2_with fail
          go_loopw [7] (fun i wr => ∃ k : Nat, k ≤ l3 ∧ i = .int .i64 (k : Nat) ∧ (∀ (j : Nat) (hj : j < ms.length), j < k → seq ms[j].p.ty nm = false) ∧ BlkT w wr [.string rn, (.slice q1 l1 j1), (.slice q2 l2 j2), (.slice q3 l3 j3), (.slice q4 l4 j4), .string ety, (.slice q5 l5 j5)] 49) (fun i _ => l3 + 1 - (intOf i).toNat)
          case atStart => exact ⟨0, by omega, rfl, fun j hj h => by omega, HTb.out⟩
          case round =>
            obtain ⟨k, hk, rfl, hf, hTr⟩ := hrel
            have HF := hid hf
            have HTc : Hid (BlkT w wr [.string rn, (.slice q1 l1 j1), (.slice q2 l2 j2), (.slice q3 l3 j3), (.slice q4 l4 j4), .string ety, (.slice q5 l5 j5)] 49) := hTr
            have a1 : wr.cell? ⟨w.heap.size, 3, none⟩ = some (.slice q3 l3 j3) := hTr.c 3
            clear hf
            by_cases hlt : k < l3
            · have hkc : k < ms.length := by have := HN3.out; omega
              obtain ⟨g, off, hp, hrd⟩ := HA3.out (by omega)
              rw [hp] at a1
              obtain ⟨us, r1, o1⟩ := hrd wr hTr.bel k hkc
              obtain ⟨us', z1, o2⟩ := rdM o1
              clear o1
              subst z1
              obtain ⟨vf, z2, o3⟩ := rdP o2
              clear o2 o3
              subst z2
              have n1 := r1 3 _ rfl
              have HNX : seq ms[k].p.ty nm = false → Hid (∀ (j : Nat) (hj : j < ms.length), j < k + 1 → seq ms[j].p.ty nm = false) := fun hq j hj h => by
                by_cases c : j = k
                · subst c; exact hq
                · exact HF.out j hj (by omega)
              have HHT : seq ms[k].p.ty nm = true → Hid (spk ws ns ms nm = true) := fun hq => by
                show _ = _
                unfold spk
                rw [any_some (l := ms) (q := fun m => seq m.p.ty nm) hkc hq]
                simp
              obtain ⟨d, hd⟩ : ∃ d, ms[k].p.ty = d := ⟨_, rfl⟩
              rw [hd] at n1 HNX HHT
              have i1 : (0 : Int) ≤ (k : Int) := by omega
              have i2 : (k : Int) < (l3 : Int) := by omega
              cases hq : seq d nm
              · have HNY := HNX hq
                have hq2 : (d.toList == nm.toList) = false := hq
                clear HNX HHT hq hd hrd hTr hkc r1 hp
                go_wp2_with fail
                go_roundw
                case rel => exact ⟨k + 1, by omega, by go_num, HNY.out, HTc.out⟩
                case measure => simp [intOf]; omega
              · have HR0 := HHT hq
                have hq2 : (d.toList == nm.toList) = true := hq
                clear HNX HHT hq hd hrd hTr hkc r1 hp
                go_wp2_with fail
                go_ret
                rw [HR0.out]
                exact ⟨rfl, HTc.out.bel⟩
            · obtain rfl : l3 = k := by omega
              have HAc : Hid (∀ (j : Nat) (hj : j < ms.length), seq ms[j].p.ty nm = false) := fun j hj => HF.out j hj (by have := HN3.out; omega)
              clear hTr HF
              go_wp2_with fail
              go_ret
              have h1 : spk ws ns ms nm = false := by
                unfold spk
                rw [any_none HAa.out, any_none HAb.out, any_none HAc.out]
                rfl
              rw [h1]
              exact ⟨rfl, HTc.out.bel⟩
end Go.Proofs.YthndlfdbmljkhaaGreatDoor.Chk
