/-
  The walk of LexBack.
-/
import Derived.Test.YtmnblopbelppbaaDoorQ2
import Derived.Test.YtmnblopbelppbaaDoorV
namespace Go.Proofs.YtmnblopbelppbaaDoor
open Go.ChangeShapes Go.WideShapes Go.ChangeAt Go.RowKit Go.Maps Go.Deep
set_option linter.unusedVariables false
set_option linter.unusedSimpArgs false
theorem below_drawn {B : Nat} {a w : World} (h : Below B a w) (n : Nat) : Below B a (w.drewN n) := h.trans ⟨rfl, rfl, rfl, Nat.le_refl _, fun _ _ => rfl⟩
theorem jn_fine {ts : List Tk} (h : ts.length ≤ 100) (hf : ∀ t ∈ ts, tchk t = 0) : jn ts = (cat ts, 0) := by
  unfold jn
  have h1 : fst (tat ts) ts.length = 0 := fst_all fun k hk => by rw [tat_at hk]; exact hf _ (List.getElem_mem hk)
  have h2 := cat_len ts hf
  rw [if_neg (by omega), h1, if_neg (by simp), if_neg (by omega)]
theorem run_back (N : Nat) {ts : List Tk} (hf : ∀ t ∈ ts, tchk t = 0) : Run N (skd (cat ts)) ts 0 0 := by
  have h := run_cat (N := N) (T := []) (ts := []) (p := 0) (e := 0) hf Run.done
  simpa using h
theorem join_fine (v : Value) (l : List Tk) (w : World) (hv : TokensAt w v l) (hM : Marks w) (hP : Pow w) (h : l.length ≤ 100) (hf : ∀ t ∈ l, tchk t = 0) :
    Calls Tryd.prog 14 #[v] w fun e w' => e = .returned (.tuple #[.string (txt (cat l)), .int .i64 0]) ∧ Below w.heap.size w w' := by
  have := join_any v l w hv hM hP
  rw [jn_fine h hf] at this
  exact this
/-- A text that is cut without a fault. -/
theorem cut_ok (x : ByteArray) (w : World) (ts : List Tk) (hM : Marks w) (hs : x.size ≤ 3000) (hr : Run x.size (skd x.data.toList) ts 0 0) (hts : ts.length < 700) :
    Calls Tryd.prog 9 #[.string x] w fun e w' => ∃ p c, e = .returned (.tuple #[.slice p ts.length c, .int .i64 0, .int .i64 0]) ∧ TokensAt w' (.slice p ts.length c) ts ∧ Below w.heap.size w w' := by
  refine (cut_any x w ts 0 0 hM hs hr hts).mono ?_
  rintro e w' ⟨v, rfl, hv, hb⟩
  rw [if_pos rfl] at hv
  obtain ⟨p, c, rfl, h⟩ := hv
  exact ⟨p, c, rfl, ⟨p, c, rfl, h⟩, hb⟩
theorem rd_when : rd [119, 104, 101, 110] = ⟨0, ⟨1, txt [119, 104, 101, 110], 0⟩, 4⟩ := by kernel_rfl
theorem skd_when : skd [119, 104, 101, 110] = [119, 104, 101, 110] := by kernel_rfl
theorem run_when : Run 4 (skd [119, 104, 101, 110]) [⟨1, txt [119, 104, 101, 110], 0⟩] 0 0 := by
  rw [skd_when]
  have := Run.step (N := 4) [119, 104, 101, 110] [] 0 0 (by simp) (by rw [rd_when]) (by rw [rd_when]; decide) (by rw [rd_when]; decide) (by rw [rd_when]; exact Run.done)
  rw [rd_when] at this
  exact this
theorem cat40 {ts : List Tk} (h : ts.length ≤ 40) (hf : ∀ t ∈ ts, tchk t = 0) : (txt (cat ts)).size ≤ 920 := by
  have := cat_len ts hf
  rw [txt_size]
  omega
set_option maxHeartbeats 4000000 in
theorem lexBack_walk (v : Value) (l : List Pc) (w : World) (hv : PiecesAt w v l) (hw : ∀ p ∈ l, wfP p) (hM : Marks w) (hP : Pow w) :
    Calls Tryd.prog 6 #[v] w fun e w' => e = .returned (.bool true) ∧ Below w.heap.size w w' := by
  have H1 : Hid (Calls Tryd.prog 16 #[v] w fun e w' => ∃ u ts, e = .returned u ∧ TokensAt w' u ts ∧ ts.length ≤ 40 ∧ (∀ t ∈ ts, tchk t = 0) ∧ Below w.heap.size w w') := tokens_any v l w hv hw
  have HM : Hid (Marks w) := hM
  have HP : Hid (Pow w) := hP
  clear hv hw hM hP
  go_enter Tryd.func6, Tryd.ntmps6
  go_wp2_with fail
  refine H1.out.mono ?_
  rintro e w1 ⟨u, ts, rfl, hu, hl, hf, hb1⟩
  have HU : Hid (TokensAt w1 u ts) := hu
  obtain ⟨pu, cu, rfl, _⟩ := hu
  have HF : Hid (ts.length ≤ 40 ∧ ∀ t ∈ ts, tchk t = 0) := ⟨hl, hf⟩
  have HB1 : Hid (Below w.heap.size w w1) := hb1
  clear hl hf hb1 H1
  go_wp2_with fail
  refine (join_fine _ ts w1 HU.out (HM.out.below HB1.out) (HP.out.below HB1.out) (by have := HF.out.1; omega) HF.out.2).mono ?_
  rintro e w2 ⟨rfl, hb2⟩
  have HB2 : Hid (Below w.heap.size w w2) := below_trans HB1.out hb2 HB1.out.size
  have HU2 : Hid (TokensAt w2 (.slice pu ts.length cu) ts) := HU.out.below hb2
  clear hb2
  go_wp2_with fail
  refine (cut_ok (txt (cat ts)) w2 ts (HM.out.below HB2.out) (by have := cat40 HF.out.1 HF.out.2; omega) (by rw [txt_list]; exact run_back _ HF.out.2) (by have := HF.out.1; omega)).mono ?_
  rintro e w3 ⟨p3, c3, rfl, hv3, hb3⟩
  have HB3 : Hid (Below w.heap.size w w3) := below_trans HB2.out hb3 HB2.out.size
  have HU3 : Hid (TokensAt w3 (.slice pu ts.length cu) ts ∧ TokensAt w3 (.slice p3 ts.length c3) ts) := ⟨HU2.out.below hb3, hv3⟩
  clear hb3 hv3
  go_wp2_with fail
  refine (cut_ok ⟨#[119, 104, 101, 110]⟩ w3 [⟨1, txt [119, 104, 101, 110], 0⟩] (HM.out.below HB3.out) (by decide) run_when (by decide)).mono ?_
  rintro e w4 ⟨p4, c4, rfl, hv4, hb4⟩
  have HB4 : Hid (Below w.heap.size w w4) := below_trans HB3.out hb4 HB3.out.size
  have HU4 : Hid (TokensAt w4 (.slice pu ts.length cu) ts ∧ TokensAt w4 (.slice p3 ts.length c3) ts) := ⟨HU3.out.1.below hb4, HU3.out.2.below hb4⟩
  clear hb4 hv4
  go_wp2_with (go_at_call 17; refine (same_keep _ _ ts _ HU4.out.1 HU4.out.2).mono ?_; rintro e w5 ⟨rfl, q, rfl⟩)
  go_ret
  exact ⟨rfl, below_drawn HB4.out q⟩
end Go.Proofs.YtmnblopbelppbaaDoor
