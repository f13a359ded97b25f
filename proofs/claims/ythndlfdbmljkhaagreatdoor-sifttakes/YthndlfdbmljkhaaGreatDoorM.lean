/-
  Whether a text is a mark; the longest mark that it begins with. What Check and the document say of a token. What the document says of a token. Bytes between tokens; the kinds of tokens; Words, Numbers, Strings and Marks as they are read.
-/
import Derived.Test.YthndlfdbmljkhaaGreatDoorA
import Derived.Deep.MidRow
namespace Go.Proofs.YthndlfdbmljkhaaGreatDoor
open Go.ChangeShapes Go.WideShapes Go.ChangeAt Go.RowKit
set_option linter.unusedVariables false
set_option linter.unusedSimpArgs false
theorem ret_str {a b : ByteArray} (h : a = b) : Ending.returned (.string a) = .returned (.string b) := by rw [h]
/-- The table of marks as it is loaded. -/
def mkA : Array Value := (mkl.map fun m => Value.string (txt m)).toArray
theorem mkA_at (k : Nat) (h : k < 17) : mkA[k]? = some (.string (txt (mkl.getD k []))) := by
  match k, h with
  | 0, _ => rfl
  | 1, _ => rfl
  | 2, _ => rfl
  | 3, _ => rfl
  | 4, _ => rfl
  | 5, _ => rfl
  | 6, _ => rfl
  | 7, _ => rfl
  | 8, _ => rfl
  | 9, _ => rfl
  | 10, _ => rfl
  | 11, _ => rfl
  | 12, _ => rfl
  | 13, _ => rfl
  | 14, _ => rfl
  | 15, _ => rfl
  | 16, _ => rfl
  | n + 17, h => exact absurd h (by omega)
theorem index_marks (AA : Array Value) (k : Nat) (v : Value) (hk : k < 17) (h : AA[k]? = some v) (w : World) :
    (Instr.index 156 (.agg AA) (.int .i64 k)).run Tryz.prog w = .ok v w := by
  have c : Tryz.prog.cellsOf 9 = 1 := by kernel_rfl
  simp [Instr.index, run_underlying Tryz.underlying156, asIntOf, go_sem, hk, h]
theorem txt_eq (s : ByteArray) (l : List UInt8) : s = txt l ↔ s.data.toList = l := by
  constructor
  · rintro rfl; exact txt_list l
  · intro h; rw [← h, txt_of]
theorem take_in (l : List UInt8) (k : Nat) (hk : k < 17) (h : l ∉ mkl.take k) (h2 : l ≠ mkl.getD k []) : l ∉ mkl.take (k + 1) := by
  have hk' : k < mkl.length := hk
  rw [List.take_succ_eq_append_getElem hk']
  have e : mkl.getD k [] = mkl[k] := by simp [List.getD, List.getElem?_eq_getElem hk']
  rw [e] at h2
  rw [List.mem_append, List.mem_singleton]
  rintro (x | x)
  · exact h x
  · exact h2 x
theorem at_in (k : Nat) (hk : k < 17) : mkl.getD k [] ∈ mkl := by
  have hk' : k < mkl.length := hk
  have e : mkl.getD k [] = mkl[k] := by simp [List.getD, List.getElem?_eq_getElem hk']
  rw [e]; exact List.getElem_mem hk'
theorem fmk_step (l : List UInt8) : ∀ (ms : List (List UInt8)) (k : Nat) (h : k < ms.length), fmk l (ms.drop k) = if Lib.hasPrefix l ms[k] = true then ms[k] else fmk l (ms.drop (k + 1)) := by
  intro ms k h
  rw [List.drop_eq_getElem_cons h, fmk]
end Go.Proofs.YthndlfdbmljkhaaGreatDoor
namespace Go.Proofs.YthndlfdbmljkhaaGreatDoor
open Go.ChangeShapes Go.WideShapes Go.ChangeAt Go.RowKit
set_option linter.unusedVariables false
set_option linter.unusedSimpArgs false
end Go.Proofs.YthndlfdbmljkhaaGreatDoor
namespace Go.Proofs.YthndlfdbmljkhaaGreatDoor
open Go.ChangeShapes Go.WideShapes Go.ChangeAt Go.RowKit
set_option linter.unusedVariables false
set_option linter.unusedSimpArgs false
theorem ib_iff (c : UInt8) : ∀ l : List UInt8, 0 ≤ Lib.indexByte l c ↔ c ∈ l
  | [] => by simp [Lib.indexByte]
  | b :: l => by
    have ih := ib_iff c l
    have hg := Lib.indexByte_ge l c
    unfold Lib.indexByte
    by_cases h : b = c
    · simp [h]
    · have hb : (b == c) = false := by simpa using h
      have hc : ¬ c = b := fun e => h e.symm
      simp only [hb, List.mem_cons, hc, false_or]
      by_cases g : Lib.indexByte l c = -1
      · simp [g] at ih ⊢
        exact ih
      · have gb : (Lib.indexByte l c == -1) = false := by simpa using g
        simp only [gb]
        rw [← ih]
        simp
        omega
end Go.Proofs.YthndlfdbmljkhaaGreatDoor
namespace Go.Proofs.YthndlfdbmljkhaaGreatDoor
open Go.ChangeShapes Go.WideShapes Go.ChangeAt Go.RowKit
set_option linter.unusedVariables false
set_option linter.unusedSimpArgs false
theorem ext_list (s : ByteArray) (a b : Nat) : (s.extract a b).data.toList = (s.data.toList.drop a).take (b - a) := by
  rw [ByteArray.data_extract, Array.toList_extract, List.extract_eq_take_drop]
theorem ext_to (s : ByteArray) (a : Nat) : (s.extract a s.size).data.toList = s.data.toList.drop a := by
  rw [ext_list, List.take_of_length_le]
  simp
theorem ext_txt (s : ByteArray) (a b : Nat) : s.extract a b = txt ((s.data.toList.drop a).take (b - a)) := by
  rw [← ext_list, txt_of]
/-- A box of three cells behind a call that turned nothing old. -/
theorem box3 {w w1 : World} {a b c : Value} {t : TypeId} (hb : Below (w.alloc (.cells #[a, b, c] t)).heap.size (w.alloc (.cells #[a, b, c] t)) w1) :
    (w1.cell? ⟨w.heap.size, 0, none⟩ = some a ∧ w1.cell? ⟨w.heap.size, 1, none⟩ = some b ∧ w1.cell? ⟨w.heap.size, 2, none⟩ = some c) ∧
    (w1.frozen? ⟨w.heap.size, 0, none⟩ = false ∧ w1.frozen? ⟨w.heap.size, 1, none⟩ = false ∧ w1.frozen? ⟨w.heap.size, 2, none⟩ = false) ∧ Below w.heap.size w w1 := by
  have hc : ∀ o, w1.cell? ⟨w.heap.size, o, none⟩ = (w.alloc (.cells #[a, b, c] t)).cell? ⟨w.heap.size, o, none⟩ := fun o => hb.cell (p := ⟨w.heap.size, o, none⟩) (by simp)
  have hf : ∀ o, w1.frozen? ⟨w.heap.size, o, none⟩ = (w.alloc (.cells #[a, b, c] t)).frozen? ⟨w.heap.size, o, none⟩ := fun o => hb.frozen (p := ⟨w.heap.size, o, none⟩) (by simp)
  refine ⟨⟨?_, ?_, ?_⟩, ⟨?_, ?_, ?_⟩, below_trans (below_new _ _) hb (by simp)⟩
  all_goals first
    | (rw [hc]; simp [go_sem]; done)
    | (rw [hf]; simp [go_sem]; done)
theorem below3 {w w1 : World} {n : Nat} {a b c : Value} (h : Below n w w1) (m : Nat) (hm : n ≤ m) : Below n w (((w1.setCell ⟨m, 0, none⟩ a).setCell ⟨m, 1, none⟩ b).setCell ⟨m, 2, none⟩ c) :=
  ((h.setCell (p := ⟨m, 0, none⟩) hm _).setCell (p := ⟨m, 1, none⟩) hm _).setCell (p := ⟨m, 2, none⟩) hm _
theorem res3 {P : Program} {fn : Func} {p a b : Tmp} {ty : TypeId} (h : fn.results = #[.cell p ty, .tmp a, .tmp b]) (tmps : Array Value) (w : World) (g : Nat) (cs : List Value) (d : TypeDesc)
    (hp : tmps.getD p undef = .pointer (some ⟨g, 0, none⟩)) (hc : w.rangeAt g 0 cs) (hu : P.underlying ty = some d) (hd : d.isRow = true) (hi : (P.info? ty).map (·.size) = some cs.length) :
    (results fn tmps).run P w = .ok (.tuple #[.agg cs.toArray, tmps.getD a undef, tmps.getD b undef]) w := by
  have hp' : tmps[p]?.getD undef = .pointer (some ⟨g, 0, none⟩) := by simpa using hp
  simp [results, h, hp', asAddr, run_loadVar_mid w g 0 ty cs d hc hu hd hi]
theorem range3 {w : World} {m : Nat} {x y z a b c : Value} (h0 : w.cell? ⟨m, 0, none⟩ = some x) (h1 : w.cell? ⟨m, 1, none⟩ = some y) (h2 : w.cell? ⟨m, 2, none⟩ = some z) :
    (((w.setCell ⟨m, 0, none⟩ a).setCell ⟨m, 1, none⟩ b).setCell ⟨m, 2, none⟩ c).rangeAt m 0 [a, b, c] := by
  intro j v hv
  match j, hv with
  | 0, hv => simp at hv; subst hv; simp [go_sem, h0, h1, h2]
  | 1, hv => simp at hv; subst hv; simp [go_sem, h0, h1, h2]
  | 2, hv => simp at hv; subst hv; simp [go_sem, h0, h1, h2]
theorem ib_lt (c : UInt8) : ∀ l : List UInt8, 0 ≤ l.length → Lib.indexByte l c < l.length
  | [], _ => by simp [Lib.indexByte]
  | b :: l, _ => by
    have ih := ib_lt c l (by omega)
    unfold Lib.indexByte
    split
    · simp
    · split
      · simp; omega
      · simp; omega
end Go.Proofs.YthndlfdbmljkhaaGreatDoor
