/-
  The walk of LexJoins.
-/
import Derived.Test.YtmnblopbelppbaaDoorE
import Derived.Test.YtmnblopbelppbaaDoorV2
namespace Go.Proofs.YtmnblopbelppbaaDoor
open Go.ChangeShapes Go.WideShapes Go.ChangeAt Go.RowKit Go.Maps Go.Deep
set_option linter.unusedVariables false
set_option linter.unusedSimpArgs false
theorem below_drawn {B : Nat} {a w : World} (h : Below B a w) (n : Nat) : Below B a (w.drewN n) := h.trans ⟨rfl, rfl, rfl, Nat.le_refl _, fun _ _ => rfl⟩
theorem wpList_copy {ops : Array Oper} {rest : List Oper} {o : Oper} {a : Act} {w : World} {Q : Exit → Act → World → Prop} (hgd : o.guard = none) (s x : Operand)
    (ho : o.op = .call { callee := .builtin .append, args := #[s, x], argTypes := #[22, 22] }) (v : Value) (l : List Tk) (hs : a.eval s = .slice none 0 0) (hx : a.eval x = v) (hd : TokensAt w v l) (hb : l.length * 32 ≤ 140737488355328)
    (h : ∀ v' w', w'.ownsRow w.heap.size 29 3 v' l.length (l.flatMap encT) → Below w.heap.size w w' → wpList Tryd.prog ops Q rest (a.put o.dst v') w') : wpList Tryd.prog ops Q (o :: rest) a w := by
  refine wpList_plain hgd fun K hK => ?_
  obtain ⟨v', w', hr, h2, h3⟩ := run_copy w o.type hd hb
  unfold Oper.wp execOp
  simp only [ho, resolve, invoke, builtin, Sem.run_bind, Sem.run_pure, Result.andThen_ok, List.map_toArray, List.map_cons, List.map_nil, hs, hx, hr]
  exact hK _ _ (h v' w' h2 h3)
set_option maxHeartbeats 4000000 in
theorem lexJoins_walk (v : Value) (l : List Tk) (w : World) (hv : TokensAt w v l) (hw : ∀ t ∈ l, wfT t) (hM : Marks w) (hP : Pow w) (hb : l.length * 32 ≤ 140737488355328) :
    Calls Tryd.prog 5 #[v] w fun e w' => e = .returned (.bool true) ∧ Below w.heap.size w w' := by
  have HV : Hid (TokensAt w v l) := hv
  have HW : Hid (∀ t ∈ l, wfT t) := hw
  have HM : Hid (Marks w) := hM
  have HP : Hid (Pow w) := hP
  have HBN : Hid (l.length * 32 ≤ 140737488355328) := hb
  obtain ⟨pu, cu, rfl, _⟩ := hv
  obtain ⟨x, hx⟩ : ∃ x, txt (jn l).1 = x := ⟨_, rfl⟩
  obtain ⟨r, hr⟩ : ∃ r, (jn l).2 = r := ⟨_, rfl⟩
  have HJ : Hid (∀ u W, TokensAt W u l → Marks W → Pow W → Calls Tryd.prog 14 #[u] W fun e w' => e = .returned (.tuple #[.string x, .int .i64 r]) ∧ Below W.heap.size W w') := fun u W h1 h2 h3 => by rw [← hx, ← hr]; exact join_any u l W h1 h2 h3
  have HJO : Hid (∀ u W, TokensAt W u l → Calls Tryd.prog 15 #[u] W fun e w' => e = .returned (.tuple #[.string x, .int .i64 r]) ∧ Below W.heap.size W w') := fun u W h1 => by rw [← hx, ← hr]; exact joinOf_any u l W h1 HW.out
  clear hw hM hP hb hx hr
  go_enter Tryd.func5, Tryd.ntmps5
  go_wp2_with (at_builtin; go_loud (refine wpList_copy (by rfl) _ _ (by rfl) (.slice pu l.length cu) l (by rfl) (by rfl) HV.out HBN.out ?_); intro v' w1 hown hb1; have HB1 : Hid (Below w.heap.size w w1) := hb1; have HC1 : Hid (TokensAt w1 v' l) := toks_own hown; obtain ⟨pc, cc, hvv⟩ := own_shape hown; subst hvv; clear hown hb1)
  refine (HJ.out _ _ HC1.out (HM.out.below HB1.out) (HP.out.below HB1.out)).mono ?_
  rintro e w2 ⟨rfl, hb2⟩
  have HB2 : Hid (Below w.heap.size w w2) := below_trans HB1.out hb2 HB1.out.size
  have HC2 : Hid (TokensAt w2 (.slice pc l.length cc) l ∧ TokensAt w2 (.slice pu l.length cu) l) := ⟨HC1.out.below hb2, HV.out.below HB2.out⟩
  clear hb2
  go_wp2_with fail
  refine (HJO.out _ _ HC2.out.2).mono ?_
  rintro e w3 ⟨rfl, hb3⟩
  have HB3 : Hid (Below w.heap.size w w3) := below_trans HB2.out hb3 HB2.out.size
  have HC3 : Hid (TokensAt w3 (.slice pc l.length cc) l ∧ TokensAt w3 (.slice pu l.length cu) l) := ⟨HC2.out.1.below hb3, HC2.out.2.below hb3⟩
  clear hb3
  have hxx : (x.toList == x.toList) = true := by simp
  go_wp2_with (go_at_call 11; refine (same_law _ _ l _ HC3.out.1 HC3.out.2).mono ?_; rintro e w4 ⟨rfl, q, rfl⟩)
  go_ret
  exact ⟨rfl, below_drawn HB3.out q⟩
end Go.Proofs.YtmnblopbelppbaaDoor
