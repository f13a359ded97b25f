/-
  The grammar as the reference reads it; that it reads the same books, and tells the same of what is none.
-/
import Derived.Test.YtnlmkdncifijlaaDoorZ
namespace Go.Proofs.YtnlmkdncifijlaaDoor.Ref
open Go.ChangeShapes Go.WideShapes Go.ChangeAt Go.RowKit
set_option linter.unusedVariables false
set_option linter.unusedSimpArgs false
theorem nxt_err {L : List Tk} {s : St} (h : s.e ≠ 0) : nxt L s = no := by unfold nxt; rw [if_neg h]
theorem see_err {L : List Tk} {w : List UInt8} {s : St} (h : s.e ≠ 0) : see L w s = false := by
  unfold see
  rw [nxt_err h]
  rfl
theorem fal_err {L : List Tk} {s : St} (h : s.e ≠ 0) : fal L s = s := by unfold fal; rw [if_neg h]
theorem fal_bad (L : List Tk) (s : St) : (fal L s).e ≠ 0 := by
  unfold fal
  split
  · simp only
    split <;> omega
  · assumption
theorem wnt_err {L : List Tk} {w : List UInt8} {s : St} (h : s.e ≠ 0) : wnt L w s = s := by
  unfold wnt
  rw [see_err h, if_neg (by decide), fal_err h]
theorem num_err {L : List Tk} {s : St} (h : s.e ≠ 0) : (num L s).2 = s := by
  unfold num
  rw [nxt_err h, if_neg (by decide)]
  exact fal_err h
theorem nam_err {L : List Tk} {s : St} (h : s.e ≠ 0) : (nam L s).2 = s := by
  unfold nam
  rw [nxt_err h, if_neg (by rintro ⟨c, _⟩; revert c; decide)]
  exact fal_err h
theorem wnt_no {L : List Tk} {w : List UInt8} {s : St} (h : ¬ see L w s = true) : wnt L w s = fal L s := by
  unfold wnt
  rw [if_neg h]
theorem see_one {L : List Tk} {a b : List UInt8} {s : St} (h : see L a s = true) (k : see L b s = true) : a = b := by
  unfold see at h k
  simp only [Bool.and_eq_true, decide_eq_true_eq] at h k
  rw [← h.2, ← k.2]
/-- A when. -/
def whn' (L : List Tk) (s : St) : Pt × St :=
  let p := pat L s
  if see L [111, 118, 101, 114] p.2 = true then
    let q : Int × St := if see L [108, 97, 115, 116] p.2.adv = true then (2, p.2.adv.adv) else (1, wnt L [116, 105, 109, 101] p.2.adv)
    let d := num L q.2
    (⟨p.1.va, p.1.ty, p.1.c, q.1, d.1⟩, d.2)
  else p
theorem whn_same (L : List Tk) (s : St) : (whn' L s).2 = (whn L s).2 ∧ ((whn L s).2.e = 0 → (whn' L s).1 = (whn L s).1) := by
  unfold whn' whn
  simp only
  by_cases h : see L [111, 118, 101, 114] (pat L s).2 = true
  · rw [if_pos h, if_pos h]
    by_cases h1 : see L [108, 97, 115, 116] (pat L s).2.adv = true
    · have h2 : ¬ see L [116, 105, 109, 101] (pat L s).2.adv = true := fun c => by have := see_one h1 c; revert this; decide
      rw [if_pos h1, if_neg h2, if_pos h1]
      exact ⟨rfl, fun _ => rfl⟩
    · rw [if_neg h1]
      by_cases h2 : see L [116, 105, 109, 101] (pat L s).2.adv = true
      · rw [if_pos h2]
        unfold wnt
        rw [if_pos h2]
        exact ⟨rfl, fun _ => rfl⟩
      · rw [if_neg h2, if_neg h1]
        unfold wnt
        rw [if_neg h2]
        refine ⟨rfl, fun c => ?_⟩
        rw [num_err (fal_bad _ _)] at c
        exact absurd c (fal_bad _ _)
  · rw [if_neg h, if_neg h]
    exact ⟨rfl, fun _ => rfl⟩
def fld' (L : List Tk) (s : St) : Fd × St :=
  let a := nam L s
  let b := wnt L [58] a.2
  if see L [105, 110, 116] b = true then (⟨a.1, 1⟩, b.adv) else (⟨a.1, 2⟩, wnt L [116, 101, 120, 116] b)
theorem fld_same (L : List Tk) (s : St) : (fld' L s).2 = (fld L s).2 ∧ ((fld L s).2.e = 0 → (fld' L s).1 = (fld L s).1) := by
  unfold fld' fld
  simp only
  by_cases h : see L [105, 110, 116] (wnt L [58] (nam L s).2) = true
  · rw [if_pos h, if_pos h]
    exact ⟨rfl, fun _ => rfl⟩
  · rw [if_neg h, if_neg h]
    by_cases h2 : see L [116, 101, 120, 116] (wnt L [58] (nam L s).2) = true
    · rw [if_pos h2]
      unfold wnt at h2 ⊢
      rw [if_pos h2]
      exact ⟨rfl, fun _ => rfl⟩
    · rw [if_neg h2]
      refine ⟨?_, fun c => absurd c (fal_bad _ _)⟩
      exact wnt_no h2
theorem sep_same {α : Type} (L : List Tk) (w : List UInt8) {p p' : St → α × St} (hp : ∀ s, (p' s).2 = (p s).2 ∧ ((p s).2.e = 0 → (p' s).1 = (p s).1)) :
    ∀ n s l l', (s.e = 0 → l' = l) → (sep L w p' n s l').2 = (sep L w p n s l).2 ∧ ((sep L w p n s l).2.e = 0 → (sep L w p' n s l').1 = (sep L w p n s l).1)
  | 0, s, l, l', h => ⟨rfl, fun c => h c⟩
  | n + 1, s, l, l', h => by
    unfold sep
    by_cases c : see L w s = true
    · have h0 : s.e = 0 := by
        by_cases h0 : s.e = 0
        · exact h0
        · rw [see_err h0] at c; cases c
      rw [if_pos c, if_pos c, (hp s.adv).1, h h0]
      exact sep_same L w hp n _ _ _ fun e => by rw [(hp s.adv).2 e]
    · rw [if_neg c, if_neg c]
      exact ⟨rfl, fun c => h c⟩
theorem lst_same {α : Type} (L : List Tk) (w : List UInt8) {p p' : St → α × St} (hp : ∀ s, (p' s).2 = (p s).2 ∧ ((p s).2.e = 0 → (p' s).1 = (p s).1)) (s : St) :
    (lst L w p' s).2 = (lst L w p s).2 ∧ ((lst L w p s).2.e = 0 → (lst L w p' s).1 = (lst L w p s).1) := by
  unfold lst
  by_cases c : see L w s = true
  · rw [if_pos c, if_pos c]
    exact ⟨rfl, fun _ => rfl⟩
  · rw [if_neg c, if_neg c]
    have h := sep_same L [44] hp L.length (p s).2 [(p s).1] [(p' s).1] (fun e => by rw [(hp s).2 e])
    rw [(hp s).1]
    refine ⟨by simp only; rw [h.1], fun e => ?_⟩
    simp only at e ⊢
    refine h.2 ?_
    by_cases h0 : (sep L [44] p L.length (p s).2 [(p s).1]).2.e = 0
    · exact h0
    · rw [wnt_err h0] at e; exact absurd e h0
def typ' (L : List Tk) (s : St) : Tp × St :=
  let a := nam L s
  let b := lst L [125] (fld' L) (wnt L [123] a.2)
  (⟨a.1, b.1⟩, b.2)
theorem typ_same (L : List Tk) (s : St) : (typ' L s).2 = (typ L s).2 ∧ ((typ L s).2.e = 0 → (typ' L s).1 = (typ L s).1) := by
  have h := lst_same L [125] (fld_same L) (wnt L [123] (nam L s).2)
  unfold typ' typ
  simp only
  exact ⟨h.1, fun e => by rw [h.2 e]⟩
def cla' (L : List Tk) (u : Rl) (s : St) : Rl × St :=
  if see L [119, 104, 101, 110] s = true then ({ u with w := u.w ++ [(whn' L s.adv).1] }, (whn' L s.adv).2)
  else if see L [110, 111, 116] s = true then ({ u with t := u.t ++ [(pat L s.adv).1] }, (pat L s.adv).2)
  else if see L [109, 97, 110, 121] s = true then ({ u with m := u.m ++ [(mny L s.adv).1] }, (mny L s.adv).2)
  else if see L [119, 104, 101, 114, 101] s = true then ({ u with k := u.k ++ [(lnk L s.adv).1] }, (lnk L s.adv).2)
  else if u.e.ty.data.toList = [] ∧ see L [101, 109, 105, 116] s = true then ({ u with e := (emt L s.adv).1 }, (emt L s.adv).2)
  else (u, fal L s)
theorem cla_same (L : List Tk) (u : Rl) (s : St) : (cla' L u s).2 = (cla L u s).2 ∧ ((cla L u s).2.e = 0 → (cla' L u s).1 = (cla L u s).1) := by
  unfold cla' cla
  by_cases h1 : see L [119, 104, 101, 110] s = true
  · rw [if_pos h1, if_pos h1]
    have h := whn_same L s.adv
    exact ⟨h.1, fun e => by simp only; rw [h.2 e]⟩
  rw [if_neg h1, if_neg h1]
  by_cases h2 : see L [110, 111, 116] s = true
  · rw [if_pos h2, if_pos h2]; exact ⟨rfl, fun _ => rfl⟩
  rw [if_neg h2, if_neg h2]
  by_cases h3 : see L [109, 97, 110, 121] s = true
  · rw [if_pos h3, if_pos h3]; exact ⟨rfl, fun _ => rfl⟩
  rw [if_neg h3, if_neg h3]
  by_cases h4 : see L [119, 104, 101, 114, 101] s = true
  · have h5 : ¬ (u.e.ty.data.toList = [] ∧ see L [101, 109, 105, 116] s = true) := fun c => by have := see_one h4 c.2; revert this; decide
    rw [if_pos h4, if_neg h5, if_pos h4]; exact ⟨rfl, fun _ => rfl⟩
  rw [if_neg h4]
  by_cases h5 : u.e.ty.data.toList = [] ∧ see L [101, 109, 105, 116] s = true
  · rw [if_pos h5, if_pos h5]; exact ⟨rfl, fun _ => rfl⟩
  rw [if_neg h5, if_neg h5, if_neg h4]
  exact ⟨rfl, fun _ => rfl⟩
def rlp' (L : List Tk) : Nat → Rl → St → Rl × St
  | 0, u, s => (u, s)
  | n + 1, u, s => if s.e = 0 then (if see L [125] s = true then (u, s.adv) else rlp' L n (cla' L u s).1 (wnt L [59] (cla' L u s).2)) else (u, s)
theorem rlp_same (L : List Tk) : ∀ n u u' s, (s.e = 0 → u' = u) → (rlp' L n u' s).2 = (rlp L n u s).2 ∧ ((rlp L n u s).2.e = 0 → (rlp' L n u' s).1 = (rlp L n u s).1)
  | 0, u, u', s, h => ⟨rfl, h⟩
  | n + 1, u, u', s, h => by
    unfold rlp' rlp
    by_cases h0 : s.e = 0
    · rw [if_pos h0, if_pos h0, h h0]
      by_cases h1 : see L [125] s = true
      · rw [if_pos h1, if_pos h1]; exact ⟨rfl, fun _ => rfl⟩
      · rw [if_neg h1, if_neg h1, (cla_same L u s).1]
        refine rlp_same L n _ _ _ fun e => (cla_same L u s).2 ?_
        by_cases h2 : (cla L u s).2.e = 0
        · exact h2
        · rw [wnt_err h2] at e; exact absurd e h2
    · rw [if_neg h0, if_neg h0]
      exact ⟨rfl, h⟩
def rle' (L : List Tk) (s : St) : Rl × St := rlp' L (L.length + 1) ⟨(nam L s).1, [], [], [], [], ⟨txt [], []⟩⟩ (wnt L [123] (nam L s).2)
theorem rle_same (L : List Tk) (s : St) : (rle' L s).2 = (rle L s).2 ∧ ((rle L s).2.e = 0 → (rle' L s).1 = (rle L s).1) := rlp_same L _ _ _ _ fun _ => rfl
def bkp' (L : List Tk) : Nat → Bk → St → Bk × St
  | 0, b, s => (b, s)
  | n + 1, b, s =>
    if s.e = 0 ∧ s.i < L.length then
      (if see L [116, 121, 112, 101] s = true then bkp' L n ⟨b.t ++ [(typ' L s.adv).1], b.r⟩ (typ' L s.adv).2
       else if see L [114, 117, 108, 101] s = true then bkp' L n ⟨b.t, b.r ++ [(rle' L s.adv).1]⟩ (rle' L s.adv).2
       else bkp' L n b (fal L s))
    else (b, s)
theorem bkp_same (L : List Tk) : ∀ n b b' s, (s.e = 0 → b' = b) → (bkp' L n b' s).2 = (bkp L n b s).2 ∧ ((bkp L n b s).2.e = 0 → (bkp' L n b' s).1 = (bkp L n b s).1)
  | 0, u, u', s, h => ⟨rfl, h⟩
  | n + 1, u, u', s, h => by
    unfold bkp' bkp
    by_cases h0 : s.e = 0 ∧ s.i < L.length
    · rw [if_pos h0, if_pos h0, h h0.1]
      by_cases h1 : see L [116, 121, 112, 101] s = true
      · rw [if_pos h1, if_pos h1, (typ_same L s.adv).1]
        exact bkp_same L n _ _ _ fun e => by rw [(typ_same L s.adv).2 e]
      · rw [if_neg h1, if_neg h1]
        by_cases h2 : see L [114, 117, 108, 101] s = true
        · rw [if_pos h2, if_pos h2, (rle_same L s.adv).1]
          exact bkp_same L n _ _ _ fun e => by rw [(rle_same L s.adv).2 e]
        · rw [if_neg h2, if_neg h2]
          exact bkp_same L n _ _ _ fun e => rfl
    · rw [if_neg h0, if_neg h0]
      exact ⟨rfl, h⟩
def bok' (L : List Tk) : Bk × St := bkp' L (L.length + 1) ⟨[], []⟩ ⟨0, 0, 0⟩
theorem bok_same (L : List Tk) : (bok' L).2 = (bok L).2 ∧ ((bok L).2.e = 0 → (bok' L).1 = (bok L).1) := bkp_same L _ _ _ _ fun _ => rfl
/-- What the reference tells. -/
def prs' (L : List Tk) : Bk × Nat × Int :=
  if 700 < L.length then (⟨[], []⟩, 0, 8)
  else match tck L 0 with
    | some (i, e) => (⟨[], []⟩, i, e)
    | none => if (bok' L).2.e = 0 then ((bok' L).1, 0, 0) else (⟨[], []⟩, (bok' L).2.i, (bok' L).2.e)
theorem prs_same (L : List Tk) : prs' L = prs L := by
  have h := bok_same L
  unfold prs' prs
  rw [h.1]
  by_cases h7 : 700 < L.length
  · rw [if_pos h7, if_pos h7]
  · rw [if_neg h7, if_neg h7]
    cases tck L 0 with
    | some p => rfl
    | none =>
      simp only
      by_cases h0 : (bok L).2.e = 0
      · rw [if_pos h0, if_pos h0, h.2 h0]
      · rw [if_neg h0, if_neg h0]
end Go.Proofs.YtnlmkdncifijlaaDoor.Ref
