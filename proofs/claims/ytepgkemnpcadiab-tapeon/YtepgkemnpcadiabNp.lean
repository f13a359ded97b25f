/-
  Rows of raw things that came in; the acts made of them.
-/
import Derived.Test.YtepgkemnpcadiabNo
namespace Go.Proofs.Ytepgkemnpcadiab
open Go.Deep Go.ChangeShapes Go.WideShapes Go.ChangeAt Go.RowKit Go.Maps Go.Joins
set_option linter.unusedVariables false
set_option linter.unusedSimpArgs false
set_option maxRecDepth 20000
def DsAt (w : World) (v : Value) (ds : List Rw) : Prop :=
  ∃ p cap, v = .slice p ds.length cap ∧ ds.length ≤ cap ∧ cap ≤ maxLen ∧ (0 < ds.length → ∃ g off, p = some ⟨g, off, none⟩ ∧ g < w.heap.size ∧ ∀ j (hj : j < ds.length) i u, (rwC ds[j])[i]? = some u → w.cell? ⟨g, off + j * 7 + i, none⟩ = some u)
theorem DsAt.below {w w' : World} {v : Value} {ds : List Rw} (h : DsAt w v ds) (b : Below w.heap.size w w') : DsAt w' v ds := by
  obtain ⟨p, cap, h1, h2, h3, h4⟩ := h
  refine ⟨p, cap, h1, h2, h3, fun c => ?_⟩
  obtain ⟨g, off, q1, q2, q3⟩ := h4 c
  exact ⟨g, off, q1, Nat.lt_of_lt_of_le q2 b.size, fun j hj i u hu => by rw [b.cell q2]; exact q3 j hj i u hu⟩
theorem cells_at {w : World} {base : Nat} {a : Addr} {n : Nat} {cs : List Value} (h : w.cells? base a n = some cs) : ∀ i u, cs[i]? = some u → i < n → w.cell? (a.add i) = some u := by
  intro i u hu hi
  unfold World.cells? at h
  split at h
  · have := mapM_some_get h i i (by rw [List.getElem?_range hi])
    rw [this, hu]
  · cases h
section
variable {H : Type} {enc : TypeId × Value → H} {W : World} {base b0 : Nat} {r : Reach} {spare : Nat → Bool} {held : Bool} {v : Value} {d : DataW H} {p : List MemPlace}
theorem open_deeds (hv : Value.okWide Try.prog W r b0 22 v) (h : DataW.Trod enc Try.prog W base spare held 22 v d p) : ∃ ds : List Rw, DsAt W v ds ∧ ∀ x ∈ ds, x.ok := by
  obtain ⟨s, l, c, rfl⟩ := okWide_slice Try.underlying22 hv
  obtain ⟨fuel, hf⟩ := h
  rcases open_slice Try.underlying22 (by simpa [Value.cells] using hf) with ⟨hcs, _⟩ | ⟨x, l', c', m, n', D, Pl, hcs, _, hl, hm, hme, _, hcell⟩
  · simp at hcs
    obtain ⟨rfl, rfl, rfl⟩ := hcs
    exact ⟨[], ⟨none, 0, rfl, by simp, Nat.zero_le _, fun h => absurd h (by simp)⟩, fun x hx => (by cases hx)⟩
  · simp at hcs
    obtain ⟨rfl, rfl, rfl⟩ := hcs
    have hlm : l ≤ m := by rw [hme]; split <;> omega
    have each : ∀ i, i < l → ∃ y : Rw, y.ok ∧ ∀ q u, (rwC y)[q]? = some u → W.cell? (x.add (i * 7 + q)) = some u := fun i hi => by
      obtain ⟨cs', hq1, hq2⟩ := hcell i (by omega)
      rw [kDe] at hq1
      obtain ⟨a0, a1, a2, a3, a4, a5, a6, e, u0, u1, u2, u3, u4, u5⟩ := deed_of (enc := enc) (base := base) (spare := spare) (held := held) (W := W) (cs := cs') ⟨_, hq2⟩
      refine ⟨⟨a0, a1, a2, a3, a4, a5, a6⟩, ⟨u0, u1, u2, u3, u4, u5⟩, fun q u hu => ?_⟩
      have hq7 : q < 7 := (List.getElem?_eq_some_iff.1 hu).1
      have := cells_at hq1 q u (by rw [e]; exact hu) hq7
      rwa [add_add] at this
    obtain ⟨f, hF⟩ : ∃ f : Nat → Rw, ∀ i, i < l → (f i).ok ∧ ∀ q u, (rwC (f i))[q]? = some u → W.cell? (x.add (i * 7 + q)) = some u := by
      refine ⟨fun i => if h : i < l then (each i h).choose else ⟨0, 0, 0, 0, 0, ⟨#[]⟩, false⟩, fun i hi => ?_⟩
      simp only [hi, dif_pos]
      exact (each i hi).choose_spec
    refine ⟨(List.range l).map f, ⟨some x, c, by simp, by simpa using hl, hm, fun hp => ?_⟩, fun y hy => ?_⟩
    · have hp' : 0 < l := by simpa using hp
      have h00 := (hF 0 hp').2 0 _ rfl
      have hx0 : x.spot = none := by
        have := spot_none h00
        exact spot_of (m := 7) (by simpa using this)
      refine ⟨x.block, x.off, ?_, ?_, fun j hj i u hu => ?_⟩
      · cases x; simp at hx0; subst hx0; rfl
      · rw [key_of hx0] at h00
        exact World.block_lt_of_cell? _ ⟨x.block, x.off + (0 * 7 + 0), none⟩ h00
      · have hj' : j < l := by simpa using hj
        have := (hF j hj').2 i u (by simpa using hu)
        rw [key_of hx0] at this
        rw [Nat.add_assoc]
        exact this
    · obtain ⟨j, hj, rfl⟩ := List.mem_map.1 hy
      exact (hF j (by simpa using hj)).1
end
theorem take_map_succ {α β : Type} (f : α → β) (l : List α) (k : Nat) (h : k < l.length) : (l.take (k + 1)).map f = (l.take k).map f ++ [f l[k]] := by
  rw [List.take_succ_eq_append_getElem h, List.map_append]
  rfl
theorem meas_k {n k : Nat} (h : k < n) : n + 1 - (intOf (.int .i64 ((k : Int) + 1))).toNat < n + 1 - (intOf (.int .i64 (k : Int))).toNat := by
  show n + 1 - ((k : Int) + 1).toNat < n + 1 - ((k : Int)).toNat
  omega
set_option maxHeartbeats 16000000 in
theorem notes_any (ds : List Rw) (v : Value) (w : World) (hv : DsAt w v ds) (hok : ∀ x ∈ ds, x.ok) :
    Calls Try.prog 9 #[v] w fun e w' => ∃ r, e = .returned r ∧ AO w' w.heap.size r ((ds.take 24).map noteA) ∧ Below w.heap.size w w' := by
  have HV := hid hv
  have HOK := hid hok
  obtain ⟨p, cap, rfl, h1, h2, h4⟩ := hv
  obtain ⟨n, hn⟩ : ∃ n, ds.length = n := ⟨_, rfl⟩
  have HC : Hid (∀ j (hj : j < ds.length), ∃ g off, p = some ⟨g, off, none⟩ ∧ g < w.heap.size ∧ ∀ i u, (rwC ds[j])[i]? = some u → w.cell? ⟨g, off + j * 7 + i, none⟩ = some u) := fun j hj => by
    obtain ⟨g, off, q1, q2, q3⟩ := h4 (by omega)
    exact ⟨g, off, q1, q2, fun i u hu => q3 j hj i u hu⟩
  have hmx : (n : Int) ≤ 9223372036854775807 := by unfold maxLen at h2; omega
  have HN := hid hn
  rw [hn] at HV ⊢
  clear h1 h2 h4 hn hok
  go_enter Try.func9, Try.ntmps9
  go_wp2_with fail
  go_loopw [3, 4] (fun out i wr => ∃ k : Nat, i = .int .i64 (k : Int) ∧ k ≤ n ∧ k ≤ 24 ∧ AO wr w.heap.size out ((ds.take k).map noteA) ∧ Below w.heap.size w wr) (fun _ i _ => 24 + 1 - (intOf i).toNat)
  case atStart => exact ⟨0, rfl, by omega, by omega, AO.nil _ _, Below.refl _ _⟩
  case round =>
    obtain ⟨k, rfl, hkn, hk24, hao, hbb⟩ := hrel
    obtain ⟨pa, na, ca, hsh⟩ : ∃ p n c, u3 = .slice p n c := by obtain ⟨p, c, h⟩ := hao.shape; exact ⟨p, _, c, h⟩
    subst hsh
    have HAO := hid hao
    have HB := hid hbb
    have HKN := hid hkn
    have HK24 := hid hk24
    clear hao hbb
    by_cases hlt : k < n ∧ k < 24
    · obtain ⟨hk1, hk2⟩ := hlt
      have hkd : k < ds.length := by have := HN.out; omega
      obtain ⟨g, off, hp, hgs, hc⟩ := HC.out k hkd
      subst hp
      have HNT := hid (fun W => note_any ds[k] (HOK.out _ (List.getElem_mem hkd)) W)
      obtain ⟨D, hD⟩ : ∃ D, ds[k] = D := ⟨_, rfl⟩
      rw [hD] at hc HNT
      have HD := hid hD
      obtain ⟨ki, ty, lo, nn, de, tx, co⟩ := D
      have hcw : ∀ i u, (rwC ⟨ki, ty, lo, nn, de, tx, co⟩)[i]? = some u → wr.cell? ⟨g, off + k * 7 + i, none⟩ = some u := fun i u hu => (HB.out.cell hgs).trans (hc i u hu)
      have x0 : wr.cell? ⟨g, off + k * 7, none⟩ = some (.int .i64 ki) := hcw 0 _ rfl
      have x1 : wr.cell? ⟨g, off + k * 7 + 1, none⟩ = some (.int .i64 ty) := hcw 1 _ rfl
      have x2 : wr.cell? ⟨g, off + k * 7 + 2, none⟩ = some (.int .i64 lo) := hcw 2 _ rfl
      have x3 : wr.cell? ⟨g, off + k * 7 + 3, none⟩ = some (.int .i64 nn) := hcw 3 _ rfl
      have x4 : wr.cell? ⟨g, off + k * 7 + 4, none⟩ = some (.int .i64 de) := hcw 4 _ rfl
      have x5 : wr.cell? ⟨g, off + k * 7 + 5, none⟩ = some (.string tx) := hcw 5 _ rfl
      have x6 : wr.cell? ⟨g, off + k * 7 + 6, none⟩ = some (.bool co) := hcw 6 _ rfl
      have i1 : (0 : Int) ≤ (k : Int) := by omega
      have i2 : (k : Int) < (n : Int) := by omega
      have i3 : (k : Int) < 24 := by omega
      have HK1 := hid (And.intro hk1 hk2)
      clear hcw hc hkn hk24 hk1 hk2 hD
      unfold rwv at HNT
      simp only at HNT
      go_wp2_with fail
      refine (HNT.out _).mono ?_
      rintro x w3 ⟨u, rfl, ho, hb⟩
      clear x0 x1 x2 x3 x4 x5 x6
      obtain ⟨pu, nu, cu, hsh⟩ := ho.shape3
      subst hsh
      have HO3 := hid ho
      have HBh3 := hid hb
      have HSW : Hid (w.heap.size ≤ wr.heap.size) := HB.out.size
      clear ho hb
      replace HB : Hid (Below w.heap.size w w3) := below_trans HB.out HBh3.out HB.out.size
      replace HAO : Hid (AO w3 w.heap.size (.slice pa na ca) ((ds.take k).map noteA)) := AO.below HAO.out HBh3.out
      obtain ⟨⟨ak, ⟨ok, os, oa, ob, ol, od, oc⟩, aq, ay⟩, hA⟩ : ∃ A, noteA ⟨ki, ty, lo, nn, de, tx, co⟩ = A := ⟨_, rfl⟩
      rw [hA] at HO3 ⊢
      have HA := hid hA
      clear hA
      simp only at HO3
      unfold acv
      simp only
      have HVO : Hid (VO w3 wr.heap.size (.slice pu nu cu) ol) := HO3.out
      go_upto_region 6 with ((with_reducible show wpList _ _ _ (Oper.mk _ (.store 46 _ _) _ _ _ _ :: _) _ _); refine wp_st (by rfl) 46 _ _ (by rfl) w3.heap.size 0 [.int .i64 0, .int .i64 0, .string ⟨#[]⟩, .int .i64 0, .int .i64 0, .slice none 0 0, .int .i64 0, .bool false, .int .i64 0, .string ⟨#[]⟩] 46 (.agg #[.int .i64 ak, .int .i64 ok, .string os, .int .i64 oa, .int .i64 ob, .slice pu nu cu, .int .i64 od, .bool oc, .int .i64 aq, .string ay]) [.int .i64 ak, .int .i64 ok, .string os, .int .i64 oa, .int .i64 ob, .slice pu nu cu, .int .i64 od, .bool oc, .int .i64 aq, .string ay] (by rfl) (by rfl) (by rfl) (heap_alloc_new _ _) (by simp) (by kernel_rfl) (by rfl) ?_; intro w5 hq1 hq2; have HU5 := hid hq1; have HF5 := hid hq2; clear hq1 hq2)
      have HBn5 : Hid (Below w3.heap.size w3 w5) := below_fr ((Below.refl _ _).alloc (Nat.le_refl _) _) HF5.out (Nat.le_refl _)
      replace HB : Hid (Below w.heap.size w w5) := below_trans HB.out HBn5.out HB.out.size
      replace HAO : Hid (AO w5 w.heap.size (.slice pa na ca) ((ds.take k).map noteA)) := AO.below HAO.out HBn5.out
      replace HVO : Hid (VO w5 wr.heap.size (.slice pu nu cu) ol) := VO.kept HVO.out (fun i _ hi => HBn5.out.block i hi)
      have HT5 : Hid (w5.heap[w3.heap.size]? = some (.cells #[.int .i64 ak, .int .i64 ok, .string os, .int .i64 oa, .int .i64 ob, .slice pu nu cu, .int .i64 od, .bool oc, .int .i64 aq, .string ay] 46 (0, 0))) := HU5.out
      clear HU5 HF5
      have x0 : w5.cell? ⟨w3.heap.size, 0, none⟩ = some (.int .i64 ak) := by rw [cell_of_blk HT5.out]; rfl
      have x1 : w5.cell? ⟨w3.heap.size, 1, none⟩ = some (.int .i64 ok) := by rw [cell_of_blk HT5.out]; rfl
      have x2 : w5.cell? ⟨w3.heap.size, 2, none⟩ = some (.string os) := by rw [cell_of_blk HT5.out]; rfl
      have x3 : w5.cell? ⟨w3.heap.size, 3, none⟩ = some (.int .i64 oa) := by rw [cell_of_blk HT5.out]; rfl
      have x4 : w5.cell? ⟨w3.heap.size, 4, none⟩ = some (.int .i64 ob) := by rw [cell_of_blk HT5.out]; rfl
      have x5 : w5.cell? ⟨w3.heap.size, 5, none⟩ = some (.slice pu nu cu) := by rw [cell_of_blk HT5.out]; rfl
      have x6 : w5.cell? ⟨w3.heap.size, 6, none⟩ = some (.int .i64 od) := by rw [cell_of_blk HT5.out]; rfl
      have x7 : w5.cell? ⟨w3.heap.size, 7, none⟩ = some (.bool oc) := by rw [cell_of_blk HT5.out]; rfl
      have x8 : w5.cell? ⟨w3.heap.size, 8, none⟩ = some (.int .i64 aq) := by rw [cell_of_blk HT5.out]; rfl
      have x9 : w5.cell? ⟨w3.heap.size, 9, none⟩ = some (.string ay) := by rw [cell_of_blk HT5.out]; rfl
      have HS5 : Hid (w.heap.size ≤ w5.heap.size) := HB.out.size
      have HLA : Hid (((ds.take k).map noteA).length < 10000000) := by have := HK1.out; show _ < _; rw [List.length_map, List.length_take]; omega
      go_wp2_with (at_builtin; go_loud (refine wp_pushA (by rfl) _ _ (by rfl) w5 w.heap.size (.slice pa na ca) _ (by rfl) HAO.out (by rfl) (by first | rfl | simp) ⟨ak, ⟨ok, os, oa, ob, ol, od, oc⟩, aq, ay⟩ (.slice pu nu cu) (VO.weak HVO.out HSW.out) HLA.out HS5.out ?_); intro v8 w8 hq1 hq2; have HA8 := hid hq1; have HB8 := hid hq2; obtain ⟨p8, n8, c8, hsh⟩ : ∃ p n c, v8 = .slice p n c := (by obtain ⟨p, c, h⟩ := hq1.shape; exact ⟨p, _, c, h⟩); subst hsh; clear hq1 hq2 x0 x1 x2 x3 x4 x5 x6 x7 x8 x9)
      go_roundw
      case rel => exact ⟨k + 1, by go_num, by have := HK1.out; omega, by have := HK1.out; omega, by rw [take_map_succ noteA ds k hkd, HD.out, HA.out]; exact HA8.out, below_trans HB.out HB8.out (Nat.le_refl _)⟩
      case measure => exact meas_k (by have := HK1.out; omega)
    · have hke : ds.take k = ds.take 24 := by
        have h1 := HN.out
        rcases (by omega : k = n ∨ k = 24) with h | h
        · rw [List.take_of_length_le (by omega), List.take_of_length_le (by omega)]
        · rw [h]
      rw [hke] at HAO
      clear hke
      rcases (by omega : (¬ (k : Int) < (n : Int)) ∨ ((k : Int) < (n : Int) ∧ ¬ (k : Int) < 24)) with hi | ⟨hi, hi2⟩
      all_goals
        clear hlt
        go_wp2
        go_ret
        exact ⟨_, rfl, by first | exact HAO.out | (have h := HAO.out; rw [List.map_take] at h; exact h), HB.out⟩
end Go.Proofs.Ytepgkemnpcadiab
