/-
  The walk of LexBack.
-/
import Derived.Test.YtmnblopbelppbabDoorQ
namespace Go.Proofs.YtmnblopbelppbabDoor
open Go.ChangeShapes Go.WideShapes Go.ChangeAt Go.RowKit Go.Maps Go.Deep
set_option linter.unusedVariables false
set_option linter.unusedSimpArgs false
theorem below_drawn {B : Nat} {a w : World} (h : Below B a w) (n : Nat) : Below B a (w.drewN n) := h.trans ⟨rfl, rfl, rfl, Nat.le_refl _, fun _ _ => rfl⟩
theorem jn_fine {ts : List Tk} (h : ts.length ≤ 100) (hf : ∀ t ∈ ts, tchk t = 0) : jn ts = (cat ts, 0) := by
  unfold jn
  have h1 : fst (tat ts) ts.length = 0 := fst_all fun k hk => by rw [tat_at hk]; exact hf _ (List.getElem_mem hk)
  have h2 := cat_len ts hf
  rw [if_neg (by omega), h1, if_neg (by simp), if_neg (by omega)]
theorem run_back (N : Nat) {ts : List Tk} (hf : ∀ t ∈ ts, tchk t = 0) : Run N (skd (cat ts)) ts 0 0 := by
  have h := run_cat (N := N) (T := []) (ts := []) (p := 0) (e := 0) hf Run.done
  simpa using h
theorem join_fine (v : Value) (l : List Tk) (w : World) (hv : TokensAt w v l) (hM : Marks w) (hP : Pow w) (h : l.length ≤ 100) (hf : ∀ t ∈ l, tchk t = 0) :
    Calls Tryd.prog 5 #[v] w fun e w' => e = .returned (.tuple #[.string (txt (cat l)), .int .i64 0]) ∧ Below w.heap.size w w' := by
  have := join_any v l w hv hM hP
  rw [jn_fine h hf] at this
  exact this
/-- A text that is cut without a fault. -/
theorem cut_ok (x : ByteArray) (w : World) (ts : List Tk) (hM : Marks w) (hs : x.size ≤ 3000) (hr : Run x.size (skd x.data.toList) ts 0 0) (hts : ts.length < 700) :
    Calls Tryd.prog 6 #[.string x] w fun e w' => ∃ p c, e = .returned (.tuple #[.slice p ts.length c, .int .i64 0, .int .i64 0]) ∧ TokensAt w' (.slice p ts.length c) ts ∧ Below w.heap.size w w' := by
  refine (cut_any x w ts 0 0 hM hs hr hts).mono ?_
  rintro e w' ⟨v, rfl, hv, hb⟩
  rw [if_pos rfl] at hv
  obtain ⟨p, c, rfl, h⟩ := hv
  exact ⟨p, c, rfl, ⟨p, c, rfl, h⟩, hb⟩
theorem rd_when : rd [119, 104, 101, 110] = ⟨0, ⟨1, txt [119, 104, 101, 110], 0⟩, 4⟩ := by kernel_rfl
theorem skd_when : skd [119, 104, 101, 110] = [119, 104, 101, 110] := by kernel_rfl
theorem run_when : Run 4 (skd [119, 104, 101, 110]) [⟨1, txt [119, 104, 101, 110], 0⟩] 0 0 := by
  rw [skd_when]
  have := Run.step (N := 4) [119, 104, 101, 110] [] 0 0 (by simp) (by rw [rd_when]) (by rw [rd_when]; decide) (by rw [rd_when]; decide) (by rw [rd_when]; exact Run.done)
  rw [rd_when] at this
  exact this
theorem cat40 {ts : List Tk} (h : ts.length ≤ 40) (hf : ∀ t ∈ ts, tchk t = 0) : (txt (cat ts)).size ≤ 920 := by
  have := cat_len ts hf
  rw [txt_size]
  omega
end Go.Proofs.YtmnblopbelppbabDoor
