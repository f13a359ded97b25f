/-
  Bytes between tokens; the kinds of tokens; Words, Numbers, Strings and Marks as they are read.
-/
import Derived.Test.YtngbobnodecloaaDoorK
namespace Go.Proofs.YtngbobnodecloaaDoor
open Go.ChangeShapes Go.WideShapes Go.ChangeAt Go.RowKit
set_option linter.unusedVariables false
set_option linter.unusedSimpArgs false
theorem clone_any (s : ByteArray) (w : World) (hs : s.size ≤ 281474976710656) :
    Calls Tryd.prog 75 #[.string s] w fun e w' => e = .returned (.string s) ∧ Below w.heap.size w w' := by
  have H : Hid (∀ W, Calls Tryd.prog 87 #[.string s] W fun e w' => e = .returned (.string s) ∧ Below W.heap.size W w') := fun W => Tryd.stringslite_Clone s W hs
  clear hs
  go_enter Tryd.func75, Tryd.ntmps75
  go_wp2_with (go_at_call 87; refine (H.out _).mono ?_; rintro e w2 ⟨rfl, hb2⟩)
  go_ret
  exact ⟨rfl, hb2⟩
theorem ext_list (s : ByteArray) (a b : Nat) : (s.extract a b).data.toList = (s.data.toList.drop a).take (b - a) := by
  rw [ByteArray.data_extract, Array.toList_extract, List.extract_eq_take_drop]
theorem ext_to (s : ByteArray) (a : Nat) : (s.extract a s.size).data.toList = s.data.toList.drop a := by
  rw [ext_list, List.take_of_length_le]
  simp
theorem ext_txt (s : ByteArray) (a b : Nat) : s.extract a b = txt ((s.data.toList.drop a).take (b - a)) := by
  rw [← ext_list, txt_of]
/-- A box of three cells behind a call that turned nothing old. -/
theorem box3 {w w1 : World} {a b c : Value} {t : TypeId} (hb : Below (w.alloc (.cells #[a, b, c] t)).heap.size (w.alloc (.cells #[a, b, c] t)) w1) :
    (w1.cell? ⟨w.heap.size, 0, none⟩ = some a ∧ w1.cell? ⟨w.heap.size, 1, none⟩ = some b ∧ w1.cell? ⟨w.heap.size, 2, none⟩ = some c) ∧
    (w1.frozen? ⟨w.heap.size, 0, none⟩ = false ∧ w1.frozen? ⟨w.heap.size, 1, none⟩ = false ∧ w1.frozen? ⟨w.heap.size, 2, none⟩ = false) ∧ Below w.heap.size w w1 := by
  have hc : ∀ o, w1.cell? ⟨w.heap.size, o, none⟩ = (w.alloc (.cells #[a, b, c] t)).cell? ⟨w.heap.size, o, none⟩ := fun o => hb.cell (p := ⟨w.heap.size, o, none⟩) (by simp)
  have hf : ∀ o, w1.frozen? ⟨w.heap.size, o, none⟩ = (w.alloc (.cells #[a, b, c] t)).frozen? ⟨w.heap.size, o, none⟩ := fun o => hb.frozen (p := ⟨w.heap.size, o, none⟩) (by simp)
  refine ⟨⟨?_, ?_, ?_⟩, ⟨?_, ?_, ?_⟩, below_trans (below_new _ _) hb (by simp)⟩
  all_goals first
    | (rw [hc]; simp [go_sem]; done)
    | (rw [hf]; simp [go_sem]; done)
theorem below3 {w w1 : World} {n : Nat} {a b c : Value} (h : Below n w w1) (m : Nat) (hm : n ≤ m) : Below n w (((w1.setCell ⟨m, 0, none⟩ a).setCell ⟨m, 1, none⟩ b).setCell ⟨m, 2, none⟩ c) :=
  ((h.setCell (p := ⟨m, 0, none⟩) hm _).setCell (p := ⟨m, 1, none⟩) hm _).setCell (p := ⟨m, 2, none⟩) hm _
theorem res3 {P : Program} {fn : Func} {p a b : Tmp} {ty : TypeId} (h : fn.results = #[.cell p ty, .tmp a, .tmp b]) (tmps : Array Value) (w : World) (g : Nat) (cs : List Value) (d : TypeDesc)
    (hp : tmps.getD p undef = .pointer (some ⟨g, 0, none⟩)) (hc : w.rangeAt g 0 cs) (hu : P.underlying ty = some d) (hd : d.isRow = true) (hi : (P.info? ty).map (·.size) = some cs.length) :
    (results fn tmps).run P w = .ok (.tuple #[.agg cs.toArray, tmps.getD a undef, tmps.getD b undef]) w := by
  have hp' : tmps[p]?.getD undef = .pointer (some ⟨g, 0, none⟩) := by simpa using hp
  simp [results, h, hp', asAddr, run_loadVar_mid w g 0 ty cs d hc hu hd hi]
theorem range3 {w : World} {m : Nat} {x y z a b c : Value} (h0 : w.cell? ⟨m, 0, none⟩ = some x) (h1 : w.cell? ⟨m, 1, none⟩ = some y) (h2 : w.cell? ⟨m, 2, none⟩ = some z) :
    (((w.setCell ⟨m, 0, none⟩ a).setCell ⟨m, 1, none⟩ b).setCell ⟨m, 2, none⟩ c).rangeAt m 0 [a, b, c] := by
  intro j v hv
  match j, hv with
  | 0, hv => simp at hv; subst hv; simp [go_sem, h0, h1, h2]
  | 1, hv => simp at hv; subst hv; simp [go_sem, h0, h1, h2]
  | 2, hv => simp at hv; subst hv; simp [go_sem, h0, h1, h2]
theorem ib_lt (c : UInt8) : ∀ l : List UInt8, 0 ≤ l.length → Lib.indexByte l c < l.length
  | [], _ => by simp [Lib.indexByte]
  | b :: l, _ => by
    have ih := ib_lt c l (by omega)
    unfold Lib.indexByte
    split
    · simp
    · split
      · simp; omega
      · simp; omega
set_option maxHeartbeats 2000000 in
theorem readString_any (s : ByteArray) (w : World) (h1 : 1 ≤ s.size) :
    Calls Tryd.prog 61 #[.string s] w fun e w' => e = .returned (.tuple #[tV (rdS s.data.toList).t, .int .i64 (rdS s.data.toList).n, .int .i64 (rdS s.data.toList).e]) ∧ Below w.heap.size w w' := by
  obtain ⟨i, hi⟩ : ∃ i, Lib.indexByte (s.data.toList.drop 1) 34 = i := ⟨_, rfl⟩
  have HC : Hid (∀ W, Calls Tryd.prog 63 #[.string (s.extract 1 s.size), .int .u8 34] W fun e w' => e = .returned (.int .i64 i) ∧ w' = W) := fun W => by
    have := Tryd.strings_IndexByte (s.extract 1 s.size) 34 W
    rw [show (34 : Int).toNat.toUInt8 = 34 from rfl, ext_to, hi] at this
    exact this
  unfold rdS
  rw [hi]
  have hge : -1 ≤ i := hi ▸ Lib.indexByte_ge _ _
  have hlt : i < (s.size : Int) - 1 := by
    have := ib_lt 34 (s.data.toList.drop 1) (by omega)
    rw [hi] at this
    simp at this
    omega
  clear hge
  by_cases c0 : i < 0
  · simp only [c0, if_true]
    clear hi
    unfold tV no
    go_enter Tryd.func61, Tryd.ntmps61
    go_wp2_with (go_at_call 63; refine (HC.out _).mono ?_; rintro e w2 ⟨rfl, rfl⟩)
    go_returns
    exact ⟨rfl, by go_grown⟩
  · by_cases c1 : 20 < i
    · simp only [c0, c1, if_true, if_false]
      clear hi
      unfold tV no
      go_enter Tryd.func61, Tryd.ntmps61
      go_wp2_with (go_at_call 63; refine (HC.out _).mono ?_; rintro e w2 ⟨rfl, rfl⟩)
      go_returns
      exact ⟨rfl, by go_grown⟩
    · simp only [c0, c1, if_false]
      obtain ⟨n, rfl⟩ := Int.eq_ofNat_of_zero_le (by omega : 0 ≤ i)
      clear hi
      obtain ⟨X, hX⟩ : ∃ X, txt (List.take (Int.toNat n) (List.drop 1 s.data.toList)) = X := ⟨_, rfl⟩
      have hsl : ∀ W, (Instr.slice 9 (.string s) (some (.int .i64 1)) (some (.int .i64 (1 + (n : Int)))) none).run Tryd.prog W = .ok (.string X) W := fun W => by
        rw [run_slice_string W 9 s .i64 .i64 1 (1 + (n : Int)) Tryd.underlying9 (by omega) (by omega) (by omega), ext_txt, ← hX]
        have : (1 + (n : Int)).toNat - (1 : Int).toNat = n := by omega
        rw [this]
        simp
      have HK : Hid (∀ W, Calls Tryd.prog 75 #[.string X] W fun e w' => e = .returned (.string X) ∧ Below W.heap.size W w') := fun W => clone_any _ W (by
        rw [← hX, txt_size]; simp; omega)
      rw [hX]
      clear hX
      unfold tV
      go_enter Tryd.func61, Tryd.ntmps61
      go_wp2_with (first | (go_at_call 63; refine (HC.out _).mono ?_; rintro e w2 ⟨rfl, rfl⟩) | (go_at_call 75; refine (HK.out _).mono ?_; rintro e w3 ⟨rfl, hb3⟩; obtain ⟨⟨q0, q1, q2⟩, ⟨f0, f1, f2⟩, hB⟩ := box3 hb3; have HB : Hid (Below w.heap.size w w3) := hB; clear hb3 hB))
      refine bodyPost_ret (res3 Tryd.results61 _ _ w.heap.size _ _ (by rfl) (range3 q0 q1 q2) Tryd.underlying53 rfl (by kernel_rfl)) rfl ?_
      exact ⟨rfl, below3 HB.out _ (Nat.le_refl _)⟩
end Go.Proofs.YtngbobnodecloaaDoor
