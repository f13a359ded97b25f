/-
  How many parts a rule has; what is known of whens and nots, by the program.
-/
import Derived.Test.YthndlfdbmljkhaaGreatDoorDl
namespace Go.Proofs.YthndlfdbmljkhaaGreatDoor.Chk
open Go.ChangeShapes Go.WideShapes Go.ChangeAt Go.RowKit Go.Maps
set_option linter.unusedVariables false
set_option linter.unusedSimpArgs false
set_option maxRecDepth 20000
theorem ixq_all {α : Type} {q : α → Bool} : ∀ (l : List α) (n : Nat), ixq q l n = -1 → ∀ x, x ∈ l → q x = false
  | [], _, _, x, hx => by cases hx
  | y :: r, n, h0, x, hx => by
    rw [ixq] at h0
    by_cases c : q y = true
    · rw [if_pos c] at h0; omega
    · rw [if_neg c] at h0
      rcases List.mem_cons.1 hx with rfl | hx
      · simpa using c
      · exact ixq_all r (n + 1) h0 x hx
theorem lkp_map (c : Int) (g : Pt → Int) (l : List Pt) (va : ByteArray) : (ptq l va < 0 → lkp (l.map fun p => (p.va, (c, g p))) va.data.toList = none) ∧ (0 ≤ ptq l va → ∃ q, lkp (l.map fun p => (p.va, (c, g p))) va.data.toList = some (c, q)) := by
  constructor
  · intro h
    rw [lkp_none]
    intro e he
    obtain ⟨p, hp, rfl⟩ := List.mem_map.1 he
    rcases ixq_lt (q := fun p : Pt => seq p.va va) l 0 with d | ⟨j, hj, d, _⟩
    · have h2 := ixq_all l 0 d p hp
      rw [seq_iff] at h2
      exact h2
    · exfalso
      have : ptq l va = (j : Int) := by show ixq _ _ _ = _; rw [d]; simp
      omega
  · intro h
    rcases ixq_lt (q := fun p : Pt => seq p.va va) l 0 with d | ⟨j, hj, d, _⟩
    · exfalso
      have : ptq l va = -1 := d
      omega
    · have hf := find_ixq (q := fun p : Pt => seq p.va va) l 0 j hj d
      refine ⟨g l[j], ?_⟩
      unfold lkp
      rw [List.find?_map]
      have e : ((fun p : ByteArray × (Int × Int) => p.1.data.toList == va.data.toList) ∘ fun p : Pt => (p.va, (c, g p))) = fun p : Pt => seq p.va va := by funext p; simp [seq_iff]
      rw [e, hf]
      rfl
theorem Knl_of (ts : List Tp) (ws ns : List Pt) (ms : List Mn) : Knl ws ns (kw ts ws ++ (kn ts ns ++ km ts ms)) := fun va => by
  obtain ⟨a1, a2⟩ := lkp_map 1 (fun p => tyq ts p.ty) ws va
  obtain ⟨b1, b2⟩ := lkp_map 2 (fun p => tyq ts p.ty) ns va
  rw [lkp_append]
  by_cases h1 : 0 ≤ ptq ws va
  · obtain ⟨q, hq⟩ := a2 h1
    have hq' : lkp (kw ts ws) va.data.toList = some (1, q) := hq
    rw [hq']
    simp
    omega
  · have hq' : lkp (kw ts ws) va.data.toList = none := a1 (by omega)
    rw [hq']
    simp only
    rw [lkp_append]
    by_cases h2 : 0 ≤ ptq ns va
    · obtain ⟨q, hq⟩ := b2 h2
      have hq2 : lkp (kn ts ns) va.data.toList = some (2, q) := hq
      rw [hq2]
      simp
      omega
    · have hq2 : lkp (kn ts ns) va.data.toList = none := b1 (by omega)
      rw [hq2]
      simp only
      cases hk : lkp (km ts ms) va.data.toList with
      | none => simp; omega
      | some q =>
        obtain ⟨e, he, rfl⟩ := lkp_some hk
        obtain ⟨x, _, rfl⟩ := List.mem_map.1 he
        simp
        omega
set_option maxHeartbeats 8000000 in
theorem isSized_any (r : Rl) (q1 q2 q3 q4 q5 : Option Addr) (j1 j2 j3 j4 j5 l5 : Nat) (w : World) (q : Bool) (hq : decide (szs r) = q) :
    Calls Tryz.prog 102 #[.agg #[.string r.n, .slice q1 r.w.length j1, .slice q2 r.t.length j2, .slice q3 r.m.length j3, .slice q4 r.k.length j4, .string r.e.ty, .slice q5 l5 j5]] w fun e w' => e = .returned (.bool q) ∧ Below w.heap.size w w' := by
  have hz : (szs r) ↔ q = true := by rw [← hq]; simp
  unfold szs at hz
  obtain ⟨rn, ws, ns, ms, ks, ⟨ety, vs⟩⟩ := r
  simp only at hz ⊢
  generalize ws.length = l1 at *
  generalize ns.length = l2 at *
  generalize ms.length = l3 at *
  generalize ks.length = l4 at *
  clear hq
  rcases (by omega : l1 < 1 ∨ (1 ≤ l1 ∧ 3 < l1) ∨ (1 ≤ l1 ∧ l1 ≤ 3 ∧ 2 < l2) ∨ (1 ≤ l1 ∧ l1 ≤ 3 ∧ l2 ≤ 2 ∧ 2 < l3) ∨ (1 ≤ l1 ∧ l1 ≤ 3 ∧ l2 ≤ 2 ∧ l3 ≤ 2 ∧ 6 < l4) ∨ (1 ≤ l1 ∧ l1 ≤ 3 ∧ l2 ≤ 2 ∧ l3 ≤ 2 ∧ l4 ≤ 6)) with c | c | c | c | c | c
  · have HQ : Hid (q = false) := by
      show _ = _
      cases q with
      | false => rfl
      | true => have := hz.2 rfl; omega
    have g0 : decide ((1 : Int) ≤ (l1 : Int)) = false := by simp; omega
    clear c hz
    go_enter Tryz.func102, Tryz.ntmps102
    go_wp2_with fail
    go_ret
    exact ⟨by rw [HQ.out]; rfl, by go_grown⟩
  · have HQ : Hid (q = false) := by
      show _ = _
      cases q with
      | false => rfl
      | true => have := hz.2 rfl; omega
    have g0 : decide ((1 : Int) ≤ (l1 : Int)) = true := by simp; omega
    have g1 : decide ((l1 : Int) ≤ 3) = false := by simp; omega
    clear c hz
    go_enter Tryz.func102, Tryz.ntmps102
    go_wp2_with fail
    go_ret
    exact ⟨by rw [HQ.out]; rfl, by go_grown⟩
  · have HQ : Hid (q = false) := by
      show _ = _
      cases q with
      | false => rfl
      | true => have := hz.2 rfl; omega
    have g0 : decide ((1 : Int) ≤ (l1 : Int)) = true := by simp; omega
    have g1 : decide ((l1 : Int) ≤ 3) = true := by simp; omega
    have g2 : decide ((l2 : Int) ≤ 2) = false := by simp; omega
    clear c hz
    go_enter Tryz.func102, Tryz.ntmps102
    go_wp2_with fail
    go_ret
    exact ⟨by rw [HQ.out]; rfl, by go_grown⟩
  · have HQ : Hid (q = false) := by
      show _ = _
      cases q with
      | false => rfl
      | true => have := hz.2 rfl; omega
    have g0 : decide ((1 : Int) ≤ (l1 : Int)) = true := by simp; omega
    have g1 : decide ((l1 : Int) ≤ 3) = true := by simp; omega
    have g2 : decide ((l2 : Int) ≤ 2) = true := by simp; omega
    have g3 : decide ((l3 : Int) ≤ 2) = false := by simp; omega
    clear c hz
    go_enter Tryz.func102, Tryz.ntmps102
    go_wp2_with fail
    go_ret
    exact ⟨by rw [HQ.out]; rfl, by go_grown⟩
  · have HQ : Hid (q = false) := by
      show _ = _
      cases q with
      | false => rfl
      | true => have := hz.2 rfl; omega
    have g0 : decide ((1 : Int) ≤ (l1 : Int)) = true := by simp; omega
    have g1 : decide ((l1 : Int) ≤ 3) = true := by simp; omega
    have g2 : decide ((l2 : Int) ≤ 2) = true := by simp; omega
    have g3 : decide ((l3 : Int) ≤ 2) = true := by simp; omega
    have g4 : decide ((l4 : Int) ≤ 6) = false := by simp; omega
    clear c hz
    go_enter Tryz.func102, Tryz.ntmps102
    go_wp2_with fail
    go_ret
    exact ⟨by rw [HQ.out]; rfl, by go_grown⟩
  · have HQ : Hid (q = true) := by
      show _ = _
      exact hz.1 (by omega)
    have g0 : decide ((1 : Int) ≤ (l1 : Int)) = true := by simp; omega
    have g1 : decide ((l1 : Int) ≤ 3) = true := by simp; omega
    have g2 : decide ((l2 : Int) ≤ 2) = true := by simp; omega
    have g3 : decide ((l3 : Int) ≤ 2) = true := by simp; omega
    have g4 : decide ((l4 : Int) ≤ 6) = true := by simp; omega
    clear c hz
    go_enter Tryz.func102, Tryz.ntmps102
    go_wp2_with fail
    go_ret
    exact ⟨by rw [HQ.out]; rfl, by go_grown⟩
end Go.Proofs.YthndlfdbmljkhaaGreatDoor.Chk
