/-
  What Cut cuts from a text.
-/
import Derived.Test.YtggfaglfchepfaaDoorR
import Derived.Test.YtggfaglfchepfaaDoorO
namespace Go.Proofs.YtggfaglfchepfaaDoor
open Go.ChangeShapes Go.WideShapes Go.ChangeAt Go.RowKit Go.Maps Go.Deep
set_option linter.unusedVariables false
set_option linter.unusedSimpArgs false
theorem skd_drop (l : List UInt8) (k : Nat) : l.drop (k + skp false (l.drop k)) = skd (l.drop k) := by
  unfold skd
  rw [List.drop_drop]
theorem skp_le : ∀ (b : Bool) (l : List UInt8), skp b l ≤ l.length
  | true, [] => by simp [skp]
  | false, [] => by simp [skp]
  | true, c :: l => by
    have h1 := skp_le true l
    have h2 := skp_le false l
    unfold skp
    split <;> simp <;> omega
  | false, c :: l => by
    have h1 := skp_le true l
    have h2 := skp_le false l
    unfold skp
    split
    · simp; omega
    · split <;> simp <;> omega
theorem row_append {w wr W w3 : World} {u : Value} {n : Nat} {xs : List Value} {e : TypeId} {sz : Nat} (h : Below w.heap.size w W) (hg : W.grownBy w3 u.ownBlock) (hr : W.ownsRow w.heap.size e sz u n xs) : Below w.heap.size w w3 :=
  h.grown hg h.size (fun k hk => (hr.lt k hk).1)
theorem own_below {w W W2 : World} {u : Value} {n : Nat} {xs : List Value} {e : TypeId} {sz : Nat} (hr : W.ownsRow w.heap.size e sz u n xs) (hb : Below W.heap.size W W2) : W2.ownsRow w.heap.size e sz u n xs :=
  owns_block hr (fun i hi => hb.block i (hr.lt i hi).2)
theorem run_inv {N : Nat} {l : List UInt8} {ts : List Tk} {p : Nat} {e : Int} (h : Run N l ts p e) (hl : l ≠ []) :
    ((rd l).e ≠ 0 ∧ ts = [] ∧ p = N - l.length ∧ e = (rd l).e) ∨ ((rd l).e = 0 ∧ 0 < (rd l).n ∧ (rd l).n ≤ l.length ∧ ∃ ts', ts = (rd l).t :: ts' ∧ Run N (skd (l.drop (rd l).n)) ts' p e) := by
  cases h with
  | done => exact absurd rfl hl
  | bad _ _ h2 => exact .inl ⟨h2, rfl, rfl, rfl⟩
  | step _ ts' _ _ _ h2 h3 h4 h5 => exact .inr ⟨h2, h3, h4, ts', rfl, h5⟩
theorem heap_two (w : World) (a b : Obj) : ((w.alloc a).alloc b).heap[w.heap.size + 1]? = some b := by
  have := heap_alloc_new (w.alloc a) b
  simpa using this
set_option maxHeartbeats 8000000 in
theorem cut_any (s : ByteArray) (w : World) (ts : List Tk) (p : Nat) (e0 : Int) (hM : Marks w) (hs : s.size ≤ 3000) (hr : Run s.size (skd s.data.toList) ts p e0) (hts : ts.length < 700) :
    Calls Tryd.prog 29 #[.string s] w fun e w' => ∃ v, e = .returned (.tuple #[v, .int .i64 p, .int .i64 e0]) ∧ TokensAt w' v (if e0 = 0 then ts else []) ∧ Below w.heap.size w w' := by
  have hlen : s.data.toList.length = s.size := by simp
  obtain ⟨out, hout⟩ : ∃ out, (if e0 = 0 then ts else []) = out := ⟨_, rfl⟩
  rw [hout]
  have HOUT : Hid ((if e0 = 0 then ts else []) = out) := hout
  clear hout
  have HM : Hid (Marks w) := hM
  have h3 : ¬ (3000 : Int) < (s.size : Int) := by omega
  have hk0 : skp false s.data.toList ≤ s.size := hlen ▸ skp_le false s.data.toList
  have HR : Hid (Run s.size (s.data.toList.drop (skp false s.data.toList)) ts p e0) := hr
  have HT : Hid (ts.length < 700) := hts
  have HSK : Hid (∀ W, Calls Tryd.prog 59 #[.string s, .int .i64 0] W fun e w' => e = .returned (.int .i64 ((skp false s.data.toList : Nat) : Int)) ∧ w' = W) := fun W => by
    have := skip_any s 0 W (by omega) (by omega)
    simpa using this
  obtain ⟨i0, a1, a2, a3, a4⟩ := info_parts infoT
  have HI : Hid (Tryd.prog.info? 38 = some i0 ∧ i0.zero = some (.agg #[.int .i64 0, .string ByteArray.empty, .int .i64 0]) ∧ i0.size = 3 ∧ i0.bytes = 32) := ⟨a1, a2, a3, a4⟩
  clear hM hr hts a1 a2 a3 a4
  go_enter Tryd.func29, Tryd.ntmps29
  go_wp2_with (go_at_call 59; refine (HSK.out _).mono ?_; rintro e w ⟨rfl, rfl⟩)
  go_loopw [5, 6] (fun v i wr => ∃ (k : Nat) (dn rest : List Tk), k ≤ s.size ∧ i = .int .i64 k ∧ dn ++ rest = ts ∧ Run s.size (s.data.toList.drop k) rest p e0 ∧ wr.ownsRow w.heap.size 38 3 v dn.length (dn.flatMap encT) ∧ Below w.heap.size w wr) (fun _ i _ => s.size - (intOf i).toNat)
  case atStart => exact ⟨_, [], ts, hk0, rfl, rfl, HR.out, World.ownsRow_nil _ _ _ _, Below.refl _ _⟩
  case round =>
    obtain ⟨k, dn, rest, hk, rfl, hdr, hrun, hrow, hB⟩ := hrel
    have hdl : dn.length < 700 := by
      have := HT.out
      have h2 := congrArg List.length hdr
      rw [List.length_append] at h2
      omega
    obtain ⟨pu, cu, rfl⟩ := own_shape hrow
    by_cases hlt : k < s.size
    · have hd : (s.data.toList.drop k).length = s.size - k := by rw [List.length_drop, hlen]
      have hex : (s.extract k s.size).data.toList = s.data.toList.drop k := ext_to s k
      have hexs : (s.extract k s.size).size = s.size - k := by rw [ByteArray.size_extract]; omega
      have HBG : Hid (∀ W, Marks W → Calls Tryd.prog 60 #[.string (s.extract k s.size)] W fun e w' => e = .returned (.int .i64 (bgn (s.data.toList.drop k))) ∧ w' = W) := fun W hW => by
        have := begins_any (s.extract k s.size) W (by omega) hW
        rw [hex] at this
        exact this
      have HRD : Hid (bgn (s.data.toList.drop k) ≠ 0 → ∀ W, Marks W → Calls Tryd.prog 61 #[.int .i64 (bgn (s.data.toList.drop k)), .string (s.extract k s.size)] W fun e w' => e = .returned (.tuple #[.agg #[.int .i64 (rd (s.data.toList.drop k)).t.k, .string (rd (s.data.toList.drop k)).t.s, .int .i64 (rd (s.data.toList.drop k)).t.n], .int .i64 (rd (s.data.toList.drop k)).n, .int .i64 (rd (s.data.toList.drop k)).e]) ∧ Below W.heap.size W w') := fun hb W hW => by
        have := read_any (s.extract k s.size) W hW (by omega) (by omega) (by rw [hex]; exact hb)
        rw [hex] at this
        exact this
      have hMr : Marks wr := HM.out.below hB
      have HMR : Hid (Marks wr) := hMr
      have HB : Hid (Below w.heap.size w wr) := hB
      have HROW : Hid (wr.ownsRow w.heap.size 38 3 (.slice pu dn.length cu) dn.length (dn.flatMap encT)) := hrow
      have h700 : ¬ ((dn.length : Int) = 700) := by omega
      obtain ⟨suf, hsuf⟩ : ∃ suf, s.data.toList.drop k = suf := ⟨_, rfl⟩
      have HSUF : Hid (s.data.toList.drop k = suf) := hsuf
      rw [hsuf] at hrun hd HBG HRD
      clear hsuf hB hrow hMr hex hexs
      obtain ⟨d, hdn⟩ : ∃ d, dn.length = d := ⟨_, rfl⟩
      have HDN : Hid (dn.length = d) := hdn
      rw [hdn] at h700 HROW hdl ⊢
      clear hdn
      rcases run_inv hrun (by intro h; rw [h] at hd; simp at hd; omega) with ⟨hne2, hrest, hp, he⟩ | ⟨he0, hn0, hnl, ts', hrest, hrun'⟩
      · have HP : Hid (k = p) := by rw [hp]; show k = s.size - suf.length; omega
        have HE0 : Hid (e0 = (rd suf).e) := he
        clear hp hrest hrun hdr
        by_cases hb0 : bgn suf = 0
        · have he4 : (rd suf).e = 4 := by unfold rd; rw [if_pos hb0]
          have HE : Hid (e0 = 4) := he.trans he4
          rw [hb0] at HBG
          clear HRD hne2 he4 he
          go_wp2_with (go_at_call 60; refine (HBG.out _ HMR.out).mono ?_; rintro e wr ⟨rfl, rfl⟩)
          go_ret3
          refine ⟨.slice none 0 0, by rw [HE.out, ← HP.out]; rfl, ?_, HB.out⟩
          rw [← HOUT.out, HE.out, if_neg (by omega)]
          exact ⟨none, 0, rfl, by simp, Nat.zero_le _, fun h => absurd h (by simp)⟩
        · obtain ⟨b, hb⟩ : ∃ b, bgn suf = b := ⟨_, rfl⟩
          obtain ⟨E, hE⟩ : ∃ E, (rd suf).e = E := ⟨_, rfl⟩
          have HRD2 := HRD.out hb0
          rw [hb] at HBG HRD2 hb0
          rw [hE] at he hne2 HRD2
          have HE : Hid (e0 = E) := he
          generalize (rd suf).t.k = tk at HRD2
          generalize (rd suf).t.s = tx at HRD2
          generalize (rd suf).t.n = tn at HRD2
          generalize (rd suf).n = nn at HRD2
          have HRD3 : Hid (∀ W, Marks W → Calls Tryd.prog 61 #[.int .i64 b, .string (s.extract k s.size)] W fun e w' => e = .returned (.tuple #[.agg #[.int .i64 tk, .string tx, .int .i64 tn], .int .i64 nn, .int .i64 E]) ∧ Below W.heap.size W w') := HRD2
          have hEb : (E == 0) = false := by simpa using hne2
          have hEn : (E != 0) = true := by simpa using hne2
          clear HRD HRD2 hb hE he
          go_wp2_with (first | (go_at_call 60; refine (HBG.out _ HMR.out).mono ?_; rintro e wr ⟨rfl, rfl⟩) | (go_at_call 61; refine (HRD3.out _ HMR.out).mono ?_; rintro e w3 ⟨rfl, hb3⟩; have HB3 : Hid (Below w.heap.size w w3) := below_trans HB.out hb3 HB.out.size; clear hb3))
          go_ret3
          refine ⟨.slice none 0 0, by rw [HE.out, ← HP.out]; rfl, ?_, HB3.out.alloc HB3.out.size _⟩
          rw [← HOUT.out, HE.out, if_neg hne2]
          exact ⟨none, 0, rfl, by simp, Nat.zero_le _, fun h => absurd h (by simp)⟩
      · subst hrest
        have hb0 : bgn suf ≠ 0 := fun h => by
          have : (rd suf).e = 4 := by unfold rd; rw [if_pos h]
          omega
        have HRD2 := HRD.out hb0
        obtain ⟨b, hb⟩ : ∃ b, bgn suf = b := ⟨_, rfl⟩
        obtain ⟨t, ht⟩ : ∃ t, (rd suf).t = t := ⟨_, rfl⟩
        obtain ⟨n, hn⟩ : ∃ n, (rd suf).n = n := ⟨_, rfl⟩
        rw [he0, hn, hb, ht] at HRD2
        rw [hn] at hn0 hnl hrun'
        rw [ht] at hdr
        rw [hb] at HBG hb0
        obtain ⟨tk, tx, tn⟩ := t
        have HRD3 : Hid (∀ W, Marks W → Calls Tryd.prog 61 #[.int .i64 b, .string (s.extract k s.size)] W fun e w' => e = .returned (.tuple #[.agg #[.int .i64 tk, .string tx, .int .i64 tn], .int .i64 n, .int .i64 0]) ∧ Below W.heap.size W w') := HRD2
        have hdd : suf.drop n = s.data.toList.drop (k + n) := by rw [← HSUF.out, List.drop_drop]
        rw [hdd, ← skd_drop] at hrun'
        have hle : k + n + skp false (s.data.toList.drop (k + n)) ≤ s.size := by
          have := skp_le false (s.data.toList.drop (k + n))
          rw [List.length_drop, hlen] at this
          omega
        have HSK2 : Hid (∀ W, Calls Tryd.prog 59 #[.string s, .int .i64 ((k : Int) + (n : Int))] W fun e w' => e = .returned (.int .i64 ((k + n + skp false (s.data.toList.drop (k + n)) : Nat) : Int)) ∧ w' = W) := fun W => by
          have := skip_any s (k + n) W (by omega) (by omega)
          rw [show (((k + n : Nat) : Int)) = (k : Int) + (n : Int) from by omega] at this
          exact this
        obtain ⟨k2, hk2⟩ : ∃ k2, k + n + skp false (s.data.toList.drop (k + n)) = k2 := ⟨_, rfl⟩
        rw [hk2] at hrun' HSK2 hle
        have hkk : k < k2 := by omega
        have HRUN : Hid (Run s.size (s.data.toList.drop k2) ts' p e0) := hrun'
        have HDR : Hid (dn ++ ⟨tk, tx, tn⟩ :: ts' = ts) := hdr
        have hkn : (k : Int) + (n : Int) ≤ 3000 := by omega
        clear HRD HRD2 he0 hn0 hnl hrun hrun' hdr hb ht hn hdd hk2 HSUF hd
        go_wp2_with (first
          | (at_builtin; go_loud (refine wpList_append_own_at _ (by rfl) _ _ 22 (by rfl) w.heap.size 38 i0 (.agg #[.int .i64 0, .string ByteArray.empty, .int .i64 0]) 3 32 Tryd.underlying22 HI.out.1 HI.out.2.1 HI.out.2.2.1 HI.out.2.2.2 rfl (by omega) (.slice pu d cu) d (dn.flatMap encT) (by rfl) ((HROW3.out.alloc _).alloc _) ⟨w3.heap.size + 1, 0, none⟩ 1 1 (encT ⟨tk, tx, tn⟩) (by rfl) (by rfl) (World.news_of_block (heap_two _ _ _)) (by simp [encT, Value.oneCell']) (by unfold maxLen; omega) (by omega) (by simp; have := HB3.out.size; omega) ?_); intro v' w4 hown hgrow hiff hat; have HO : Hid (w4.ownsRow w.heap.size 38 3 v' (d + 1) (dn.flatMap encT ++ encT ⟨tk, tx, tn⟩)) := hown; have HB4 : Hid (Below w.heap.size w w4) := ((HB3.out.alloc HB3.out.size _).alloc (by simp; have := HB3.out.size; omega) _).grown hgrow (by simp; have := HB3.out.size; omega) (fun k hk => (HROW3.out.lt k hk).1); obtain ⟨pv, cv, hvv⟩ := own_shape hown; subst hvv; clear hown hgrow hat hiff)
          | (go_at_call 60; refine (HBG.out _ HMR.out).mono ?_; rintro e wr ⟨rfl, rfl⟩)
          | (go_at_call 61; refine (HRD3.out _ HMR.out).mono ?_; rintro e w3 ⟨rfl, hb3⟩; have HB3 : Hid (Below w.heap.size w w3) := below_trans HB.out hb3 HB.out.size; have HROW3 : Hid (w3.ownsRow w.heap.size 38 3 (.slice pu d cu) d (dn.flatMap encT)) := own_below HROW.out hb3; clear hb3)
          | (go_at_call 59; refine (HSK2.out _).mono ?_; rintro e w5 ⟨rfl, rfl⟩))
        go_roundw
        case rel => exact ⟨k2, dn ++ [⟨tk, tx, tn⟩], ts', hle, by go_num, by rw [List.append_assoc]; exact HDR.out, HRUN.out, by rw [List.length_append, HDN.out, List.flatMap_append]; simpa using HO.out, HB4.out⟩
        case measure => simp [intOf]; omega
    · obtain rfl : k = s.size := by omega
      have hnil : s.data.toList.drop s.size = [] := List.drop_of_length_le (by simp)
      rw [hnil] at hrun
      have hq : rest = [] ∧ p = 0 ∧ e0 = 0 := by
        cases hrun with
        | done => exact ⟨rfl, rfl, rfl⟩
        | bad _ h => exact absurd rfl h
        | step _ _ _ _ h => exact absurd rfl h
      obtain ⟨rfl, hp0, he0⟩ := hq
      rw [List.append_nil] at hdr
      subst hdr
      have HQ : Hid (p = 0 ∧ e0 = 0) := ⟨hp0, he0⟩
      clear hp0 he0
      have HTA : Hid (TokensAt wr (.slice pu dn.length cu) dn) := toks_own hrow
      have HB : Hid (Below w.heap.size w wr) := hB
      clear hrow hB hrun hnil HR
      go_wp2
      go_ret3
      refine ⟨.slice pu dn.length cu, by rw [HQ.out.1, HQ.out.2]; rfl, ?_, HB.out⟩
      rw [← HOUT.out, HQ.out.2, if_pos rfl]
      exact HTA.out
end Go.Proofs.YtggfaglfchepfaaDoor
