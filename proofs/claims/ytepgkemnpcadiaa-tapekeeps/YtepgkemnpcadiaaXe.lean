/-
  What is encoded is decoded to the same operation; with a byte more, or torn, it is none: the whole, in plain words.
-/
import Derived.Test.YtepgkemnpcadiaaXd
namespace Go.Proofs.Ytepgkemnpcadiaa
open Go.ChangeShapes Go.WideShapes Go.ChangeAt Go.RowKit Go.Maps
set_option linter.unusedVariables false
set_option linter.unusedSimpArgs false
theorem lnk' {s : Sx} (h : s.e ≠ 0) : (lnS 9 0 0 s).e = s.e := lnS_keep 9 0 0 h
/-- The three kinds of operations that may be told, written out. -/
theorem op_forms {o : Opn} (h : ochk o = 0) :
    (∃ (dn : Nat) (c : Bool), dn ≤ 1099511627776 ∧ o = ⟨2, ⟨#[]⟩, 0, 0, [], (dn : Int), c⟩) ∨
    (∃ (s : ByteArray) (an bn : Nat) (l : List Vl), an ≤ 1099511627776 ∧ bn ≤ 1099511627776 ∧ l.length ≤ 4 ∧ (∀ v ∈ l, vchk v = 0) ∧ s.size ≤ 10 ∧ o = ⟨1, s, (an : Int), (bn : Int), l, 0, false⟩) ∨
    (∃ s : ByteArray, s.size ≤ 10 ∧ o = ⟨3, s, 0, 0, [], 0, false⟩) := by
  obtain ⟨k, s, a, b, l, d, c⟩ := o
  rcases ok_cases h with ⟨h1, h2, h3, h4, h5, h6, h7⟩ | ⟨h1, h2, h3, h4, h5, h6, h7⟩ | ⟨h1, h2, h3, h4, h5, h6, h7⟩
  · simp only at h1 h2 h3 h4 h5 h6 h7
    refine Or.inl ⟨d.toNat, c, by omega, ?_⟩
    rw [h1, arr_nil h4, h5, h6, h7, Int.toNat_of_nonneg h2]
  · simp only at h1 h2 h3 h4 h5 h6 h7
    obtain ⟨a1, a2, a3, a4, _⟩ := schk_zero h2
    refine Or.inr (Or.inl ⟨s, a.toNat, b.toNat, l, by omega, by omega, h3, h4, (nchk_zero h5).2, ?_⟩)
    rw [h1, h6, h7, Int.toNat_of_nonneg a1, Int.toNat_of_nonneg a3]
  · simp only at h1 h2 h3 h4 h5 h6 h7
    refine Or.inr (Or.inr ⟨s, (nchk_zero h2).2, ?_⟩)
    rw [h1, h3, h4, h5, h6, h7]
theorem op_fw {o : Opn} (h : ochk o = 0) (r : List UInt8) : opV ⟨obt o ++ r, 0⟩ = o ∧ opS ⟨obt o ++ r, 0⟩ = ⟨r, 0⟩ := by
  rcases op_forms h with ⟨dn, c, h1, rfl⟩ | ⟨s, an, bn, l, h1, h2, h3, h4, h5, rfl⟩ | ⟨s, h1, rfl⟩
  · rw [obt_2]
    have hv : smV ⟨UInt8.ofNat 2 :: (lng dn ++ [flg c]) ++ r, 0⟩ = 2 := rfl
    have hs : smS ⟨UInt8.ofNat 2 :: (lng dn ++ [flg c]) ++ r, 0⟩ = ⟨lng dn ++ (flg c :: r), 0⟩ := by show (⟨(lng dn ++ [flg c]) ++ r, 0⟩ : Sx) = _; simp
    obtain ⟨a1, a2⟩ := ln_fw0 (m := dn) (by omega) (flg c :: r)
    obtain ⟨b1, b2⟩ := fl_fw c r
    refine ⟨?_, ?_⟩
    · unfold opV; rw [hv, if_neg (by omega), if_pos rfl, hs, a1, a2, b1]
    · unfold opS; rw [hv, if_neg (by omega), if_pos rfl, hs, a2, b2]
  · rw [obt_1]
    have hv : smV ⟨UInt8.ofNat 1 :: (txb s ++ (evt an bn l ++ l.flatMap evb)) ++ r, 0⟩ = 1 := rfl
    have hs : smS ⟨UInt8.ofNat 1 :: (txb s ++ (evt an bn l ++ l.flatMap evb)) ++ r, 0⟩ = ⟨txb s ++ (lng an ++ (lng bn ++ (UInt8.ofNat l.length :: (l.flatMap evb ++ r)))), 0⟩ := by
      show (⟨(txb s ++ (evt an bn l ++ l.flatMap evb)) ++ r, 0⟩ : Sx) = _
      unfold evt
      simp
    obtain ⟨a1, a2⟩ := tx_fw (s := s) (by omega) (lng an ++ (lng bn ++ (UInt8.ofNat l.length :: (l.flatMap evb ++ r))))
    obtain ⟨b1, b2⟩ := ln_fw0 (m := an) (by omega) (lng bn ++ (UInt8.ofNat l.length :: (l.flatMap evb ++ r)))
    obtain ⟨d1, d2⟩ := ln_fw0 (m := bn) (by omega) (UInt8.ofNat l.length :: (l.flatMap evb ++ r))
    have e := vsR_fw h4 h3 r
    refine ⟨?_, ?_⟩
    · unfold opV; rw [hv, if_pos rfl, hs, a1, a2, b1, b2, d1, d2, e]
    · unfold opS; rw [hv, if_pos rfl, hs, a2, b2, d2, e]
  · rw [obt_3]
    have hv : smV ⟨UInt8.ofNat 3 :: txb s ++ r, 0⟩ = 3 := rfl
    have hs : smS ⟨UInt8.ofNat 3 :: txb s ++ r, 0⟩ = ⟨txb s ++ r, 0⟩ := rfl
    obtain ⟨a1, a2⟩ := tx_fw (s := s) (by omega) r
    refine ⟨?_, ?_⟩
    · unfold opV; rw [hv, if_neg (by omega), if_neg (by omega), if_pos rfl, hs, a1]
    · unfold opS; rw [hv, if_neg (by omega), if_neg (by omega), if_pos rfl, hs, a2]
theorem k5 {f : Sx → Sx} (hk : ∀ {s : Sx}, s.e ≠ 0 → (f s).e = s.e) {s : Sx} (h : s.e = 5) : (f s).e = 5 := by rw [hk (by rw [h]; decide), h]
theorem vsR5 {s : Sx} (h : s.e = 5) : (vsR s).2.e = 5 := by rw [vsR_keep (by rw [h]; decide), h]
theorem op_torn {o : Opn} (h : ochk o = 0) {p q : List UInt8} (hp : p ++ q = obt o) (hq : q ≠ []) : (opS ⟨p, 0⟩).e = 5 := by
  match p, hp with
  | [], _ => rfl
  | c0 :: p, hp =>
    rcases op_forms h with ⟨dn, c, h1, rfl⟩ | ⟨s, an, bn, l, h1, h2, h3, h4, h5, rfl⟩ | ⟨s, h1, rfl⟩
    · rw [obt_2] at hp
      simp only [List.cons_append, List.cons.injEq] at hp
      obtain ⟨rfl, hp⟩ := hp
      unfold opS
      rw [show smV ⟨UInt8.ofNat 2 :: p, 0⟩ = 2 from rfl, if_neg (by omega), if_pos rfl, show smS ⟨UInt8.ofNat 2 :: p, 0⟩ = ⟨p, 0⟩ from rfl]
      rcases two_parts hp hq with ⟨q', g1, g2⟩ | ⟨p', rfl, g2⟩
      · exact k5 (f := flS) (fun h => flS_keep h) (ln_torn0 (by omega) g2 g1)
      · rw [(ln_fw0 (m := dn) (by omega) p').2]
        match p', g2 with
        | [], _ => rfl
        | x :: p', g2 =>
          simp at g2
          exact absurd g2.2.2 hq
    · rw [obt_1] at hp
      simp only [List.cons_append, List.cons.injEq] at hp
      obtain ⟨rfl, hp⟩ := hp
      unfold opS
      rw [show smV ⟨UInt8.ofNat 1 :: p, 0⟩ = 1 from rfl, if_pos rfl, show smS ⟨UInt8.ofNat 1 :: p, 0⟩ = ⟨p, 0⟩ from rfl]
      have hk1 : ∀ {s : Sx}, s.e = 5 → (lnS 9 0 0 s).e = 5 := fun {s} h => k5 (f := lnS 9 0 0) (fun h => lnk' h) h
      rcases two_parts hp hq with ⟨q', g1, g2⟩ | ⟨p1, rfl, g2⟩
      · exact vsR5 (hk1 (hk1 (tx_torn (by omega) g2 g1)))
      · rw [(tx_fw (s := s) (by omega) p1).2]
        unfold evt at g2
        rw [List.append_assoc, List.append_assoc] at g2
        rcases two_parts g2 hq with ⟨q', g1, g3⟩ | ⟨p2, rfl, g3⟩
        · exact vsR5 (hk1 (ln_torn0 (by omega) g3 g1))
        · rw [(ln_fw0 (m := an) (by omega) p2).2]
          rcases two_parts g3 hq with ⟨q', g1, g4⟩ | ⟨p3, rfl, g4⟩
          · exact vsR5 (ln_torn0 (by omega) g4 g1)
          · rw [(ln_fw0 (m := bn) (by omega) p3).2]
            exact vsR_torn h4 h3 (by simpa using g4) hq
    · rw [obt_3] at hp
      simp only [List.cons_append, List.cons.injEq] at hp
      obtain ⟨rfl, hp⟩ := hp
      unfold opS
      rw [show smV ⟨UInt8.ofNat 3 :: p, 0⟩ = 3 from rfl, if_neg (by omega), if_neg (by omega), if_pos rfl, show smS ⟨UInt8.ofNat 3 :: p, 0⟩ = ⟨p, 0⟩ from rfl]
      exact tx_torn (by omega) hp hq
theorem obt_len {o : Opn} (h : ochk o = 0) : (obt o).length ≤ 200 := by
  rcases op_forms h with ⟨dn, c, h1, rfl⟩ | ⟨s, an, bn, l, h1, h2, h3, h4, h5, rfl⟩ | ⟨s, h1, rfl⟩
  · rw [obt_2]
    have := lng_10 (n := dn) (by omega)
    simp; omega
  · rw [obt_1]
    have a1 := lng_10 (n := an) (by omega)
    have a2 := lng_10 (n := bn) (by omega)
    have a3 := evs_len h4 l.length
    rw [evs_all] at a3
    have hs : (txb s).length = s.size + 1 := by simp [txb]
    unfold evt
    simp only [List.length_cons, List.length_append, List.length_singleton, List.length_nil, hs]
    omega
  · rw [obt_3]
    simp [txb]; omega
/-- An operation is read as it was written. -/
theorem dc_fw {o : Opn} (h : ochk o = 0) : dcR (obt o) = (o, 0) := by
  have h0 := op_fw h []
  rw [List.append_nil] at h0
  have hT : dcT (obt o) = ⟨[], 0⟩ := by unfold dcT; rw [h0.2, if_pos rfl]
  unfold dcR
  rw [if_neg (by have := obt_len h; omega), hT, if_neg (by simp), h0.1, if_neg (by rw [h]; simp)]
/-- With a byte more it is none. -/
theorem dc_more {o : Opn} (h : ochk o = 0) (t : UInt8) : dcR (obt o ++ [t]) = (zop, 4) := by
  have h0 := op_fw h [t]
  have hT : dcT (obt o ++ [t]) = ⟨[t], 4⟩ := by unfold dcT; rw [h0.2, if_neg (by simp)]; rfl
  unfold dcR
  rw [if_neg (by have := obt_len h; simp; omega), hT, if_pos (by simp)]
/-- What is torn is no operation. -/
theorem dc_torn {o : Opn} (h : ochk o = 0) {p q : List UInt8} (hp : p ++ q = obt o) (hq : q ≠ []) : dcR p = (zop, 5) := by
  have h5 := op_torn h hp hq
  have hT : (dcT p).e = 5 := by
    unfold dcT
    by_cases c : (opS ⟨p, 0⟩).l = []
    · rw [if_pos c, h5]
    · rw [if_neg c, rfx_keep (by rw [h5]; decide), h5]
  have hl := congrArg List.length hp
  rw [List.length_append] at hl
  unfold dcR
  rw [if_neg (by have := obt_len h; omega), if_pos (by rw [hT]; decide), hT]
end Go.Proofs.Ytepgkemnpcadiaa
