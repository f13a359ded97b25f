/-
  Both and Either, by the program and by the reference. Both and Either, by the reference. The reference's options: what each of them says is what the program tells. Rows that are the same. The reference's OptionsOf; BoundOptions: the walk. Single bounds of a matrix: lower, least, greatest, need. What a rule's whens, and a not, may be: the matrix of their spans, in plain words. Windows and links of a rule's spans, by the program. Links of a rule's spans, by the program. The bounds of a rule's spans, closed, by the program. The bounds of a rule's nots, and its delay, by the program. The plan of a rule, by the program. The bounds of a rule, by times that keep to them. What a type's events may be needed for: one need more. What a type's events may be needed for: the needs of a rule. What a rule of a book that may be has. The plan of a rule of a book: by the program, by the document. What events of each type may be needed for: Offsets. Conditions of raw numbers, and their contraries, in plain words. Parts of books of raw numbers. Three rules, in plain words: one that never can be, one that waits without end; one that waits for a not; one that counts. Books of one rule, in memory. Just what ends within the window ahead of the latest End is counted, in plain words. Just what ends within the window ahead of the latest End is counted: the answer of Fires. Just what ends within the window ahead of the latest End is counted: FiresWithin. The tables that the program's text lays: what lies in memory. The tables that the program's text lays, three of them: what lies in memory.
-/
import Derived.BigRegion
import Derived.Lib.LazyBuf
import Derived.BigQuiet
import Derived.Lib.SmallJoins
import Derived.Test.YtnlmknbhppdliaaGreatDoorFd
import Derived.Test.YtnlmknbhppdliaaGreatDoorA
import Derived.Test.YtnlmknbhppdliaaGreatDoorCe
import Derived.Test.YtnlmknbhppdliaaGreatDoorRa
import Derived.Test.YtnlmknbhppdliaaGreatDoorDo
import Derived.Test.YtnlmknbhppdliaaGreatDoorV4I
import Derived.Test.YtnlmknbhppdliaaGreatDoorDt
import Derived.Test.YtnlmknbhppdliaaGreatDoorV4K
set_option maxHeartbeats 64000000
namespace Go.Proofs.YtnlmknbhppdliaaGreatDoor.B8
open Go.ChangeShapes Go.WideShapes Go.ChangeAt Go.RowKit Go.Maps
set_option linter.unusedVariables false
set_option linter.unusedSimpArgs false
set_option maxRecDepth 20000
end Go.Proofs.YtnlmknbhppdliaaGreatDoor.B8
namespace Go.Proofs.YtnlmknbhppdliaaGreatDoor.Chk
set_option linter.unusedVariables false
set_option linter.unusedSimpArgs false
set_option maxRecDepth 20000
/-! ### What is told lies within -/
end Go.Proofs.YtnlmknbhppdliaaGreatDoor.Chk
namespace Go.Proofs.YtnlmknbhppdliaaGreatDoor.Chk
open Go.ChangeShapes Go.WideShapes Go.ChangeAt Go.RowKit Go.Maps
set_option linter.unusedVariables false
set_option linter.unusedSimpArgs false
set_option maxRecDepth 20000
set_option linter.unusedVariables false
set_option linter.unusedSimpArgs false
set_option maxRecDepth 20000
end Go.Proofs.YtnlmknbhppdliaaGreatDoor.Chk
namespace Go.Proofs.YtnlmknbhppdliaaGreatDoor.B8
end Go.Proofs.YtnlmknbhppdliaaGreatDoor.B8
namespace Go.Proofs.YtnlmknbhppdliaaGreatDoor.Chk
open Go.ChangeShapes Go.WideShapes Go.ChangeAt Go.RowKit Go.Maps
set_option linter.unusedVariables false
set_option linter.unusedSimpArgs false
set_option maxRecDepth 20000
set_option maxRecDepth 20000
set_option linter.unusedVariables false
set_option linter.unusedSimpArgs false
set_option maxRecDepth 20000
set_option linter.unusedVariables false
set_option linter.unusedSimpArgs false
set_option maxRecDepth 20000
/-! ### What is reckoned stays small -/
/-! ### A plan is made -/
end Go.Proofs.YtnlmknbhppdliaaGreatDoor.Chk
namespace Go.Proofs.YtnlmknbhppdliaaGreatDoor.Chk
set_option linter.unusedVariables false
set_option linter.unusedSimpArgs false
set_option maxRecDepth 20000
namespace PT
open B8
end PT
end Go.Proofs.YtnlmknbhppdliaaGreatDoor.Chk
namespace Go.Proofs.YtnlmknbhppdliaaGreatDoor.Chk
open Go.ChangeShapes Go.WideShapes Go.ChangeAt Go.RowKit Go.Maps
set_option linter.unusedVariables false
set_option linter.unusedSimpArgs false
set_option maxRecDepth 20000
set_option linter.unusedVariables false
set_option linter.unusedSimpArgs false
set_option maxRecDepth 20000
end Go.Proofs.YtnlmknbhppdliaaGreatDoor.Chk
namespace Go.Proofs.YtnlmknbhppdliaaGreatDoor.Chk
open Go.ChangeShapes Go.WideShapes Go.ChangeAt Go.RowKit Go.Maps
set_option linter.unusedVariables false
set_option linter.unusedSimpArgs false
set_option maxRecDepth 20000
end Go.Proofs.YtnlmknbhppdliaaGreatDoor.Chk
namespace Go.Proofs.YtnlmknbhppdliaaGreatDoor.Chk
open Go.ChangeShapes Go.WideShapes Go.ChangeAt Go.RowKit Go.Maps
set_option linter.unusedVariables false
set_option linter.unusedSimpArgs false
set_option maxRecDepth 20000
set_option linter.unusedVariables false
set_option linter.unusedSimpArgs false
set_option maxRecDepth 20000
end Go.Proofs.YtnlmknbhppdliaaGreatDoor.Chk
namespace Go.Proofs.YtnlmknbhppdliaaGreatDoor.Chk
open Go.ChangeShapes Go.WideShapes Go.ChangeAt Go.RowKit Go.Maps
set_option linter.unusedVariables false
set_option linter.unusedSimpArgs false
set_option maxRecDepth 20000
def kts : List Tp := [⟨txt [97], [⟨txt [110], 1⟩]⟩, ⟨txt [98], [⟨txt [110], 1⟩, ⟨txt [115], 2⟩]⟩, ⟨txt [99], []⟩, ⟨txt [100], [⟨txt [110], 1⟩]⟩, ⟨txt [101], [⟨txt [110], 1⟩]⟩]
theorem tm_bd (n m : Int) (hn : n < 0) (hm : 0 < m) : 0 ≤ -((n + 1).tmod m) ∧ -((n + 1).tmod m) < m := by
  have e : -((n + 1).tmod m) = (-(n + 1)).tmod m := (Int.neg_tmod _ _).symm
  rw [e]
  exact ⟨Int.tmod_nonneg _ (by omega), Int.tmod_lt_of_pos _ hm⟩
def pkd (n m : Int) : Int := if 0 ≤ n then n % m else -((n + 1).tmod m)
theorem pkd_in (n : Int) {m : Int} (hm : 0 < m) : 0 ≤ pkd n m ∧ pkd n m < m := by
 unfold pkd
 split
 . exact ⟨Int.emod_nonneg n (by omega), Int.emod_lt_of_pos n hm⟩
 . rename_i h
   exact tm_bd n m (by omega) hm
theorem zCX (n m : Int) (w : World) (hn1 : -9223372036854775808 ≤ n) (hn2 : n ≤ 9223372036854775807) (hm : 0 < m) (hm2 : m ≤ 1099511627776) :
   Calls Tryz.prog 9 #[.int .i64 n, .int .i64 m] w fun e w' => e = .returned (.int .i64 (pkd n m)) ∧ w' = w := by
 have hm0 : ¬ m = 0 := by omega
 by_cases h : 0 ≤ n
 . have HP := hid (show pkd n m = n % m by unfold pkd; rw [if_pos h])
   go_enter Tryz.func9, Tryz.ntmps9
   go_wp2
   go_ret
   rw [HP.out]
   exact ⟨rfl, rfl⟩
 . have h' : n < 0 := by omega
   have HP := hid (show pkd n m = -((n + 1).tmod m) by unfold pkd; rw [if_neg h])
   go_enter Tryz.func9, Tryz.ntmps9
   go_wp2
   go_ret
   rw [HP.out]
   exact ⟨rfl, rfl⟩
theorem zBA {W : World} {b : Nat} {cs : List Value} {U e : TypeId} {z : Nat} {l : List (List Dat)} (hb : W.heap[b]? = some (.cells cs.toArray U (0, 0))) (hl : 0 < l.length) (hm : l.length ≤ maxLen) (h : RdL W l.flatten cs) : Rd W (.row e z l) (.slice (some ⟨b, 0, none⟩) l.length l.length) :=
  Rd.row (w := W) e z l b 0 l.length cs hl (Nat.le_refl _) hm (fun j u hu => by rw [Nat.zero_add, zAC hb]; simpa using hu) h.1 h.2
def Tys (W : World) (b : Nat) : Prop := W.heap[b]? = some (.cells #[.string ⟨#[110]⟩, .int .i64 1] 103 (0, 0)) ∧ W.heap[b + 1]? = some (.cells #[.string ⟨#[110]⟩, .int .i64 1, .string ⟨#[115]⟩, .int .i64 2] 103 (0, 0)) ∧ W.heap[b + 2]? = some (.cells #[.string ⟨#[110]⟩, .int .i64 1] 103 (0, 0)) ∧ W.heap[b + 3]? = some (.cells #[.string ⟨#[110]⟩, .int .i64 1] 103 (0, 0)) ∧ W.heap[b + 4]? = some (.cells #[.string ⟨#[97]⟩, .slice (some ⟨b, 0, none⟩) 1 1, .string ⟨#[98]⟩, .slice (some ⟨b + 1, 0, none⟩) 2 2, .string ⟨#[99]⟩, .slice none 0 0, .string ⟨#[100]⟩, .slice (some ⟨b + 2, 0, none⟩) 1 1, .string ⟨#[101]⟩, .slice (some ⟨b + 3, 0, none⟩) 1 1] 59 (0, 0))
theorem Tys.later {W W' : World} {b : Nat} (h : Tys W b) (hb : ∀ i o, W.heap[i]? = some o → b ≤ i → i < b + 5 → W'.heap[i]? = some o) : Tys W' b := ⟨hb _ _ h.1 (by omega) (by omega), hb _ _ h.2.1 (by omega) (by omega), hb _ _ h.2.2.1 (by omega) (by omega), hb _ _ h.2.2.2.1 (by omega) (by omega), hb _ _ h.2.2.2.2 (by omega) (by omega)⟩
theorem Tys.rd {W : World} {b : Nat} (h : Tys W b) : Rd W (.row 59 2 (kts.map encY)) (.slice (some ⟨b + 4, 0, none⟩) 5 5) := by
  obtain ⟨h0, h1, h2, h3, h4⟩ := h
  have r0 : Rd W (.row 103 2 (([⟨txt [110], 1⟩] : List Fd).map encF)) (.slice (some ⟨b, 0, none⟩) 1 1) := zBA (l := ([⟨txt [110], 1⟩] : List Fd).map encF) h0 (by decide) (by decide) (zBJ [.string (txt [110]), .int .i64 1])
  have r1 : Rd W (.row 103 2 (([⟨txt [110], 1⟩, ⟨txt [115], 2⟩] : List Fd).map encF)) (.slice (some ⟨b + 1, 0, none⟩) 2 2) := zBA (l := ([⟨txt [110], 1⟩, ⟨txt [115], 2⟩] : List Fd).map encF) h1 (by decide) (by decide) (zBJ [.string (txt [110]), .int .i64 1, .string (txt [115]), .int .i64 2])
  have r2 : Rd W (.row 103 2 (([⟨txt [110], 1⟩] : List Fd).map encF)) (.slice (some ⟨b + 2, 0, none⟩) 1 1) := zBA (l := ([⟨txt [110], 1⟩] : List Fd).map encF) h2 (by decide) (by decide) (zBJ [.string (txt [110]), .int .i64 1])
  have r3 : Rd W (.row 103 2 (([⟨txt [110], 1⟩] : List Fd).map encF)) (.slice (some ⟨b + 3, 0, none⟩) 1 1) := zBA (l := ([⟨txt [110], 1⟩] : List Fd).map encF) h3 (by decide) (by decide) (zBJ [.string (txt [110]), .int .i64 1])
  have rc : Rd W (.row 103 2 (([] : List Fd).map encF)) (.slice none 0 0) := .nil _ _ none 0 (Nat.zero_le _)
  exact zBA (l := kts.map encY) h4 (by decide) (by decide) (.cons (.lit _) (.cons r0 (.cons (.lit _) (.cons r1 (.cons (.lit _) (.cons rc (.cons (.lit _) (.cons r2 (.cons (.lit _) (.cons r3 (RdL.nil _)))))))))))
theorem zGF (w : World) : Calls Tryz.prog 12 #[] w fun e w' => ∃ b, e = .returned (.slice (some ⟨b + 4, 0, none⟩) 5 5) ∧ w.heap.size ≤ b ∧ Tys w' b ∧ Below w.heap.size w w' := by
  have hB := (bxs4 w [.string ⟨#[110]⟩, .int .i64 1] [.string ⟨#[110]⟩, .int .i64 1, .string ⟨#[115]⟩, .int .i64 2] [.string ⟨#[110]⟩, .int .i64 1] [.string ⟨#[110]⟩, .int .i64 1] 103 103 103 103).snoc (by simp) [.string ⟨#[97]⟩, .slice (some ⟨w.heap.size, 0, none⟩) 1 1, .string ⟨#[98]⟩, .slice (some ⟨w.heap.size + 1, 0, none⟩) 2 2, .string ⟨#[99]⟩, .slice none 0 0, .string ⟨#[100]⟩, .slice (some ⟨w.heap.size + 1 + 1, 0, none⟩) 1 1, .string ⟨#[101]⟩, .slice (some ⟨w.heap.size + 1 + 1 + 1, 0, none⟩) 1 1] 59
  have HT := hid (show Tys _ w.heap.size from ⟨hB.b 0 (by simp), hB.b 1 (by simp), hB.b 2 (by simp), hB.b 3 (by simp), hB.b 4 (by simp)⟩)
  have HB := hid hB.bel
  clear hB
  go_enter Tryz.func12, Tryz.ntmps12
  go_wp2_with fail
  go_ret
  exact ⟨w.heap.size, rfl, Nat.le_refl _, HT.out, HB.out⟩
end Go.Proofs.YtnlmknbhppdliaaGreatDoor.Chk
namespace Go.Proofs.YtnlmknbhppdliaaGreatDoor.Chk
set_option linter.unusedVariables false
set_option linter.unusedSimpArgs false
set_option maxRecDepth 20000
def ptQ (v t : List UInt8) (w n : Int) : Pt := ⟨txt v, txt t, cn0, w, n⟩
def rlQ (w t : List Pt) (m : List Mn) (k : List Lk) : Rl := ⟨txt [114], w, t, m, k, ⟨txt [], []⟩⟩
theorem pck_q {kn : List Pt} {ah : List ByteArray} {v t : List UInt8} {w n part : Int} (h1 : frn (txt v) = 0) (h2 : ah.any (fun a => seq a (txt v)) = false) (h3 : 0 ≤ tyq kts (txt t)) (h4 : ¬ wbad part w n) (h5 : ¬ rbad w n) : pck kts kn ah (ptQ v t w n) part = 0 := by
  unfold pck ptQ
  simp only
  rw [if_neg (fun c => c h1), if_neg (by rw [h2]; decide), if_neg (by omega), if_neg h4, if_neg h5, if_pos (show noc cn0 = true by kernel_rfl)]
theorem bok_one {x : Rl} (h : rck kts x = 0) (he : x.e.ty = txt []) : bok kts [x] = 0 := by
  unfold bok bkf
  rw [if_neg (by rw [show kts.length = 5 from rfl]; simp), show tks [] kts = 0 from by kernel_rfl, if_neg (by decide)]
  have e : rks (rck kts) [] [x] = 0 := by rw [rks, if_neg (fun c => c h), if_neg (by simp), rks]
  rw [e, if_neg (by decide), if_neg]
  rw [Bool.not_eq_true, List.any_eq_false]
  intro t _
  rw [show [x].length = 0 + 1 from rfl, cmo]
  simp [he, show emp (txt []) = true from by kernel_rfl]
theorem rck_q {w t : List Pt} {m : List Mn} {k : List Lk} (hs : szs (rlQ w t m k)) (e1 : wfs 0 kts [] w = 0) (e2 : nfs 0 kts w (w.map Pt.va) t = 0) (e3 : mfs 0 kts w (w.map Pt.va ++ t.map Pt.va) m = 0) (e4 : lfs 0 w t k = 0) : rck kts (rlQ w t m k) = 0 := by
  rw [zCB kts _ (show frn (txt [114]) = 0 by kernel_rfl) hs]
  show (if wfs 0 kts [] w ≠ 0 then _ else if nfs 0 kts w (w.map Pt.va) t ≠ 0 then _ else if mfs 0 kts w (w.map Pt.va ++ t.map Pt.va) m ≠ 0 then _ else if lfs 0 w t k ≠ 0 then _ else eck kts w (txt []) []) = 0
  rw [e1, if_neg (fun c => c rfl), e2, if_neg (fun c => c rfl), e3, if_neg (fun c => c rfl), e4, if_neg (fun c => c rfl)]
  unfold eck
  rw [if_pos (by kernel_rfl), if_neg (by simp)]
/-! ### What options tell -/
/-! ### What the plans are -/
theorem zHP {α : Type} {x y : α} (h : x ∈ [y]) : x = y := List.mem_singleton.1 h
/-! ### What events are needed for -/
end Go.Proofs.YtnlmknbhppdliaaGreatDoor.Chk
namespace Go.Proofs.YtnlmknbhppdliaaGreatDoor.Chk
open Go.ChangeShapes Go.WideShapes Go.ChangeAt Go.RowKit Go.Maps
set_option linter.unusedVariables false
set_option linter.unusedSimpArgs false
set_option maxRecDepth 20000
theorem zB7 {P : Program} {ops : Array Oper} {rest : List Oper} {o : Oper} {a : Act} {w : World} {Q : Exit → Act → World → Prop} (hgd : o.guard = none) (t : TypeId) (n : Nat) (parts : Array (Nat × Operand)) (ho : o.op = .buildSlice t n parts) (vals : Array (Nat × Value)) (hp : (parts.map fun x => (x.1, a.eval x.2)) = vals) (cs : List Value) (U : TypeId) (hv : ∀ w, (Instr.buildSlice t n vals).run P w = .ok (.slice (some ⟨w.heap.size, 0, none⟩) n n) (w.alloc (.cells cs.toArray U)))
  (h : ∀ b w', w'.heap[b]? = some (.cells cs.toArray U (0, 0)) → Below w.heap.size w w' → w.heap.size ≤ b → b < w'.heap.size → wpList P ops Q rest (a.put o.dst (.slice (some ⟨b, 0, none⟩) n n)) w') : wpList P ops Q (o :: rest) a w := by
 refine wpList_plain hgd fun K hK => ?_
 unfold Oper.wp execOp
 simp only [ho, Sem.run_bind, hp, hv, Result.andThen_ok, Sem.run_pure]
 exact hK _ _ (h _ _ (heap_alloc_new _ _) ((Below.refl _ _).alloc (Nat.le_refl _) _) (Nat.le_refl _) (by simp))
theorem rdp_q (w : World) (v t : List UInt8) (k n : Int) : RdL w (encP (ptQ v t k n)) [.string (txt v), .string (txt t), .int .i64 0, .slice none 0 0, .int .i64 0, .int .i64 0, .int .i64 0, .string ⟨#[]⟩, .string ⟨#[]⟩, .string ⟨#[]⟩, .int .i64 0, .int .i64 0, .int .i64 0, .string ⟨#[]⟩, .string ⟨#[]⟩, .string ⟨#[]⟩, .int .i64 k, .int .i64 n] :=
  .cons (.lit _) (.cons (.lit _) (.cons (.lit _) (.cons (.nil _ _ none 0 (Nat.zero_le _)) (zBJ [.int .i64 0, .int .i64 0, .int .i64 0, .string ⟨#[]⟩, .string ⟨#[]⟩, .string ⟨#[]⟩, .int .i64 0, .int .i64 0, .int .i64 0, .string ⟨#[]⟩, .string ⟨#[]⟩, .string ⟨#[]⟩, .int .i64 k, .int .i64 n]))))
theorem rd_p1 {w : World} {b : Nat} {v t : List UInt8} {k n : Int} (h : w.heap[b]? = some (.cells #[.string (txt v), .string (txt t), .int .i64 0, .slice none 0 0, .int .i64 0, .int .i64 0, .int .i64 0, .string ⟨#[]⟩, .string ⟨#[]⟩, .string ⟨#[]⟩, .int .i64 0, .int .i64 0, .int .i64 0, .string ⟨#[]⟩, .string ⟨#[]⟩, .string ⟨#[]⟩, .int .i64 k, .int .i64 n] 48 (0, 0))) : Rd w (.row 48 18 ([ptQ v t k n].map encP)) (.slice (some ⟨b, 0, none⟩) 1 1) :=
  zBA (l := [ptQ v t k n].map encP) h (by simp) (by show 1 ≤ maxLen; decide) (by rw [List.map_cons, List.map_nil, List.flatten_cons, List.flatten_nil, List.append_nil]; exact rdp_q w v t k n)
theorem rd_m1 {w : World} {b : Nat} {v t : List UInt8} {k n : Int} (h : w.heap[b]? = some (.cells #[.int .i64 1, .string ⟨#[]⟩, .string (txt v), .string (txt t), .int .i64 0, .slice none 0 0, .int .i64 0, .int .i64 0, .int .i64 0, .string ⟨#[]⟩, .string ⟨#[]⟩, .string ⟨#[]⟩, .int .i64 0, .int .i64 0, .int .i64 0, .string ⟨#[]⟩, .string ⟨#[]⟩, .string ⟨#[]⟩, .int .i64 k, .int .i64 n] 78 (0, 0))) : Rd w (.row 78 20 (([⟨1, txt [], ptQ v t k n⟩] : List Mn).map encM)) (.slice (some ⟨b, 0, none⟩) 1 1) :=
  zBA (l := ([⟨1, txt [], ptQ v t k n⟩] : List Mn).map encM) h (by simp) (by show 1 ≤ maxLen; decide) (by rw [List.map_cons, List.map_nil, List.flatten_cons, List.flatten_nil, List.append_nil]; exact .cons (.lit _) (.cons (.lit _) (rdp_q w v t k n)))
theorem rd_r1 {w : World} {b : Nat} {ws ts : List Pt} {ms : List Mn} {ks : List Lk} {u1 u2 u3 u4 : Value} (h : w.heap[b]? = some (.cells #[.string ⟨#[114]⟩, u1, u2, u3, u4, .string ⟨#[]⟩, .slice none 0 0] 56 (0, 0))) (h1 : Rd w (.row 48 18 (ws.map encP)) u1) (h2 : Rd w (.row 48 18 (ts.map encP)) u2) (h3 : Rd w (.row 78 20 (ms.map encM)) u3) (h4 : Rd w (.row 66 3 (ks.map encK)) u4) : Rd w (.row 56 7 ([rlQ ws ts ms ks].map encR)) (.slice (some ⟨b, 0, none⟩) 1 1) :=
  zBA (l := [rlQ ws ts ms ks].map encR) h (by simp) (by show 1 ≤ maxLen; decide) (.cons (.lit _) (.cons h1 (.cons h2 (.cons h3 (.cons h4 (.cons (.lit _) (.cons (.nil _ _ none 0 (Nat.zero_le _)) (RdL.nil _))))))))
theorem wsz_q : Wsz cn0 := .mk _ [] rfl (by decide) (by decide) (fun x hx => by cases hx)
theorem szr_q {ws ts : List Pt} {ms : List Mn} {ks : List Lk} (h1 : ∀ p, p ∈ ws → p.c = cn0) (h2 : ∀ p, p ∈ ts → p.c = cn0) (h3 : ∀ m, m ∈ ms → m.p.c = cn0) (h4 : ∀ k, k ∈ ks → k.l.size ≤ maxLen ∧ k.r.size ≤ maxLen) : Szr (rlQ ws ts ms ks) :=
  ⟨fun p hp => by rw [h1 p hp]; exact wsz_q, fun p hp => by rw [h2 p hp]; exact wsz_q, fun m hm => by rw [h3 m hm]; exact wsz_q, fun k hk => h4 k hk, fun o ho => (by cases ho)⟩
end Go.Proofs.YtnlmknbhppdliaaGreatDoor.Chk
namespace Go.Proofs.YtnlmknbhppdliaaGreatDoor.Chk
open Go.ChangeShapes Go.WideShapes Go.ChangeAt Go.RowKit Go.Maps
set_option linter.unusedVariables false
set_option linter.unusedSimpArgs false
set_option maxRecDepth 20000
def vI0 : V4.Vl := ⟨1, 0, txt []⟩
def fwP (w : Int) : Pt := ptQ [112] [97] 1 w
def fwM (w : Int) : Mn := ⟨1, txt [], fwP w⟩
def fwW : List Pt := [ptQ [120] [99] 0 0]
def fwR (w : Int) : Rl := rlQ fwW [] [fwM w] []
def yE (k : Int) : Ev := ⟨1, 0, 0, 50 - k, [vI0]⟩
def xE : Ev := ⟨2, 2, 50, 50, []⟩
def zE : Ev := ⟨3, 0, 51, 51, [vI0]⟩
theorem rck_fw {w : Int} (h0 : 0 ≤ w) (h1 : w ≤ 100) : rck kts (fwR w) = 0 :=
 rck_q (by unfold szs rlQ; simp [fwW]) (by unfold fwW; rw [wfs, if_neg (fun c => c (pck_q (by kernel_rfl) (by kernel_rfl) (by decide +kernel) (by decide) (by decide))), wfs]) (by rw [nfs])
  (by
   have hm : mck kts fwW (fwW.map Pt.va ++ ([] : List Pt).map Pt.va) (fwM w) = 0 := by
    unfold mck
    rw [if_neg (by rw [show mbad (fwM w) = false from by kernel_rfl]; decide), if_neg (fun c => c (pck_q (by kernel_rfl) (by kernel_rfl) (by decide +kernel) (by unfold wbad; omega) (by unfold rbad; omega))), if_pos (by kernel_rfl)]
   rw [mfs, if_neg (fun c => c hm), mfs])
  (by rw [lfs])
theorem bok_fw {w : Int} (h0 : 0 ≤ w) (h1 : w ≤ 100) : bok kts [fwR w] = 0 := bok_one (rck_fw h0 h1) rfl
theorem szr_fw (w : Int) : Szr (fwR w) := szr_q (fun p hp => by rw [zHP hp]; rfl) (fun p hp => by cases hp) (fun p hp => by rw [zHP hp]; rfl) (fun k hk => by cases hk)
theorem evk_y {k : Int} (h0 : 0 ≤ k) (h1 : k ≤ 50) : evk kts (yE k) = 0 := by
  unfold evk V4.echk
  rw [if_neg (by simp [yE]), if_neg (by simp [yE, kts]), show V4.schk (yE k).st (yE k).en = 0 from by unfold V4.schk; rw [if_neg (by simp [yE]; omega), if_neg (by simp [yE]; omega)], if_neg (by decide)]
  show V4.fit ((kts.map vT).getD 0 ⟨ByteArray.empty, []⟩) [vI0] = 0
  kernel_rfl
theorem evk_x : evk kts xE = 0 := by kernel_rfl
theorem evk_z : evk kts zE = 0 := by kernel_rfl
theorem jek_fw {w k : Int} (h0 : 0 ≤ w) (h1 : w ≤ 100) (h2 : 0 ≤ k) (h3 : k ≤ 50) : jek kts [fwR w] [yE k, xE, zE] = 0 := by
  unfold jek
  rw [bok_fw h0 h1, if_neg (fun c => c rfl), if_neg (by simp)]
  rw [jes, evk_y h2 h3, if_neg (fun c => c rfl), if_neg (by simp [bhd]), jes, evk_x, if_neg (fun c => c rfl), zFA, if_neg (by show ¬ ((decide ((2 : Int) ≤ 1) || decide ((50 : Int) < 50 - k)) = true); rw [decide_eq_false (show ¬ (2 : Int) ≤ 1 by decide), decide_eq_false (show ¬ (50 : Int) < 50 - k by omega)]; decide), jes, evk_z, if_neg (fun c => c rfl), zFA, if_neg (by decide), jes]
theorem ckc_fw : ckc (efs kts [xE]) (knk kts fwW [xE]) = 0 := by
  rw [ckc_0 (by rw [efs, evk_x, if_neg (fun c => c rfl), efs])]
  kernel_rfl
theorem few_fw {w k : Int} (h0 : 0 ≤ w) (h2 : 0 ≤ k) : (!([fwM w].any (few kts fwW [xE] [yE k, xE, zE] (fun _ _ => 1)))) = decide (k ≤ w) := by
 have e1 : tkb kts fwW (yE k) [xE] (fwP w) = true := by
  show (seq (kts.getD 0 dT).n (txt [97]) && hld kts fwW (yE k) [xE] 8 cn0) = true
  rw [show seq (kts.getD 0 dT).n (txt [97]) = true from by kernel_rfl, hld, if_pos (by rfl)]
  rfl
 have e2 : tkb kts fwW xE [xE] (fwP w) = false := by
  show (seq (kts.getD 2 dT).n (txt [97]) && hld kts fwW xE [xE] 8 cn0) = false
  rw [show seq (kts.getD 2 dT).n (txt [97]) = false from by kernel_rfl]
  rfl
 have e3 : ledK [xE] [xE].length = 50 := by kernel_rfl
 have e4 : few kts fwW [xE] [yE k, xE, zE] (fun _ _ => 1) (fwM w) = !decide (k ≤ w) := by
  unfold few
  rw [e3]
  show decide (smK _ _ _ 3 < 1) = _
  simp only [smK, List.getD_cons_zero, List.getD_cons_succ]
  have a2 : (wth 50 (fwM w).p.n xE && tkb kts fwW xE [xE] (fwM w).p) = false := by show (_ && tkb kts fwW xE [xE] (fwP w)) = false; rw [e2, Bool.and_false]
  have a3 : (wth 50 (fwM w).p.n zE && tkb kts fwW zE [xE] (fwM w).p) = false := by
    rw [show wth 50 (fwM w).p.n zE = false from by unfold wth; simp [zE], Bool.false_and]
  have a1 : (wth 50 (fwM w).p.n (yE k) && tkb kts fwW (yE k) [xE] (fwM w).p) = decide (k ≤ w) := by
    show (wth 50 w (yE k) && tkb kts fwW (yE k) [xE] (fwP w)) = decide (k ≤ w)
    rw [e1, Bool.and_true]
    unfold wth
    have c1 : (50 : Int) - (yE k).en = k := by show (50 : Int) - (50 - k) = k; omega
    rw [c1]
    simp [h2]
  rw [a1, a2, a3]
  by_cases c : k ≤ w
  . simp [c]
  . simp [c]
 show (!(few kts fwW [xE] [yE k, xE, zE] (fun _ _ => 1) (fwM w) || false)) = _
 rw [e4]
 simp
open Go.ChangeShapes Go.WideShapes Go.ChangeAt Go.RowKit Go.Maps
set_option linter.unusedVariables false
set_option linter.unusedSimpArgs false
set_option maxRecDepth 20000
theorem zHQ : Dst kts := dst_of (by kernel_rfl)
theorem zGI {x : Ev} (h : evk kts x = 0) : Sok kts fwW x [xE] :=
  ⟨fun i hi => (match i, hi with | 0, _ => by kernel_rfl | 1, _ => by kernel_rfl | 2, _ => by kernel_rfl | 3, _ => by kernel_rfl | 4, _ => by kernel_rfl | n + 5, hi => absurd hi (by show ¬ (n + 5 < 5); omega)), h, knk_ok zHQ (by kernel_rfl) (fun y hy => by rw [List.mem_singleton.1 hy]; exact evk_x)⟩
theorem fires_fw {m k : Int} (h0 : 0 ≤ m) (h1 : m ≤ 100) (h2 : 0 ≤ k) (h3 : k ≤ 50) (tp : Option Addr) (tn tc : Nat) (rv : Value) (kp : Option Addr) (kn2 kc : Nat) (lp : Option Addr) (ln lc : Nat) (w : World) (hT : Rd w (.row 59 2 (kts.map encY)) (.slice tp tn tc)) (hR : Rd w (.row 56 7 ([fwR m].map encR)) rv) (hK : Rd w (.row 35 5 ([xE].map encX)) (.slice kp kn2 kc)) (hL : Rd w (.row 35 5 ([yE k, xE, zE].map encX)) (.slice lp ln lc)) (htk : Tab w 0 kpl) (htr : Tab w 1 rll) :
  Calls Tryz.prog 17 #[.agg #[.slice tp tn tc, rv], .int .i64 0, .slice kp kn2 kc, .slice lp ln lc] w fun e w' => e = .returned (.tuple #[.bool (decide (k ≤ m)), .int .i64 0]) ∧ Below w.heap.size w w' :=
 zEG [fwR m] 0 (by simp) tp tn tc kp kn2 kc lp ln lc rv _ w hR
  (fun W hW => by
   have h9 := cev_any kts [fwR m] (fun r hr => by rw [List.mem_singleton.1 hr]; exact szr_fw m) _ _ _ _ W (hT.later hW) (hR.later hW) (hL.later hW) (zAF htk hW) (zAF htr hW)
   rw [jek_fw h0 h1 h2 h3] at h9
   exact h9)
  (fun W wv hW hw => by
   have h9 := zD7 kts fwW [xE] _ wv _ W (hT.later hW) hw (hK.later hW)
   rw [ckc_fw] at h9
   exact h9)
  (fun W rn rt a1 a2 a3 b1 b2 b3 d1 d2 d3 f1 f2 f3 g1 g2 g3 hW q1 q2 q3 => by
   obtain ⟨p9, c9, e9, _, _⟩ := zAG (cs := ([] : List Pt)) lenP q2
   have e8 : b2 = 0 := by simp only [Value.slice.injEq] at e9; exact e9.2.1
   subst e8
   refine zFR rn rt tp tn tc a1 a2 a3 b1 b3 d1 d2 d3 f1 f2 f3 g1 g2 g3 kp kn2 kc lp ln lc _ W (fun X hX => ?_)
   have h9 := zDE kts fwW [xE] [yE k, xE, zE] [fwM m] (fun _ _ => 1) rn rt tp tn tc a1 a2 a3 b1 0 b3 d1 d2 d3 f1 f2 f3 g1 g2 g3 kp kn2 kc lp ln lc X ⟨zHQ, fun x hx => by
     rcases List.mem_cons.1 hx with rfl | hx
     . exact zGI (evk_y h2 h3)
     rcases List.mem_cons.1 hx with rfl | hx
     . exact zGI evk_x
     . rw [List.mem_singleton.1 hx]; exact zGI evk_z,
    fun q hq => by rw [List.mem_singleton.1 hq]; exact ⟨by show 0 ≤ tyq kts (txt [97]); decide +kernel, .inl rfl⟩,
    fun q hq => by rw [List.mem_singleton.1 hq]; exact wsz_q,
    (hT.later hW).later hX, q1.later hX, (hK.later hW).later hX, q3.later hX, (hL.later hW).later hX, by simp,
    fun x hx => by
     rcases List.mem_cons.1 hx with rfl | hx
     . show 0 ≤ 50 - k ∧ 50 - k ≤ _; omega
     rcases List.mem_cons.1 hx with rfl | hx
     . decide
     . rw [List.mem_singleton.1 hx]; decide,
    fun x hx => by rw [List.mem_singleton.1 hx]; decide,
    fun q _ x _ => by decide⟩
    (fun q hq x hx _ M Y ov hY hM hov => by
     rw [List.mem_singleton.1 hq] at hM
     exact weight0 (fwM m) rfl x ov _ M Y hM)
   rw [few_fw h0 h2] at h9
   exact h9)
end Go.Proofs.YtnlmknbhppdliaaGreatDoor.Chk
namespace Go.Proofs.YtnlmknbhppdliaaGreatDoor.Chk
open Go.ChangeShapes Go.WideShapes Go.ChangeAt Go.RowKit Go.Maps
set_option linter.unusedVariables false
set_option linter.unusedSimpArgs false
set_option maxRecDepth 20000
theorem firesWithin_walk (n ago : Int) (l1 : -9223372036854775808 ≤ n) (l2 : n ≤ 9223372036854775807) (l3 : -9223372036854775808 ≤ ago) (l4 : ago ≤ 9223372036854775807) (w : World) (htk : Tab w 0 kpl) (htr : Tab w 1 rll) : Calls Tryz.prog 7 #[.int .i64 n, .int .i64 ago] w fun e w' => e = .returned (.bool true) ∧ Below w.heap.size w w' := by
 have HPK := hid (fun W => zCX n 30 W l1 l2 (by decide) (by decide))
 have HPD := hid (fun W => zCX ago 50 W l3 l4 (by decide) (by decide))
 have hm := pkd_in n (m := 30) (by decide)
 have hd := pkd_in ago (m := 50) (by decide)
 obtain ⟨m, hm9⟩ : ∃ z, pkd n 30 = z := ⟨_, rfl⟩
 obtain ⟨k, hd9⟩ : ∃ z, pkd ago 50 = z := ⟨_, rfl⟩
 rw [hm9] at HPK hm
 rw [hd9] at HPD hd
 have HG : Hid (0 ≤ m ∧ m ≤ 100 ∧ 0 ≤ k ∧ k ≤ 50) := by show _ ∧ _; omega
 obtain ⟨en_, hen⟩ : ∃ z, 50 - k = z := ⟨_, rfl⟩
 have u1 : RowKit.wrap64 (50 - k) = en_ := by unfold RowKit.wrap64; omega
 have HEN := hid hen
 have HTY := hid zGF
 clear hm9 hd9 hm hd hen l1 l2 l3 l4
 go_enter Tryz.func7, Tryz.ntmps7
 go_upto_region 3 with (first
  | (go_at_call_of 9 (Value.int IntKind.i64 n); refine (HPK.out _).mono ?_; rintro e w ⟨rfl, rfl⟩)
  | (go_at_call_of 9 (Value.int IntKind.i64 ago); refine (HPD.out _).mono ?_; rintro e w ⟨rfl, rfl⟩))
 clear HPD
 go_upto_region 4 with (first
  | (go_at_call 12; refine (HTY.out _).mono ?_; rintro e w1 ⟨b, rfl, hb1, hb2, hb3⟩; have HTB := hid hb2; have L0 := hid hb3; clear hb1 hb2 hb3)
  | ((with_reducible show wpList _ _ _ (Oper.mk (some 19) _ _ _ _ _ :: _) _ _); refine zB7 (by rfl) 49 1 _ (by rfl) #[(0, .agg #[.string ⟨#[120]⟩, .string ⟨#[99]⟩, .int .i64 0, .slice none 0 0, .int .i64 0, .int .i64 0, .int .i64 0, .string ⟨#[]⟩, .string ⟨#[]⟩, .string ⟨#[]⟩, .int .i64 0, .int .i64 0, .int .i64 0, .string ⟨#[]⟩, .string ⟨#[]⟩, .string ⟨#[]⟩, .int .i64 0, .int .i64 0])] (by simp [Act.eval, Act.put]) [.string ⟨#[120]⟩, .string ⟨#[99]⟩, .int .i64 0, .slice none 0 0, .int .i64 0, .int .i64 0, .int .i64 0, .string ⟨#[]⟩, .string ⟨#[]⟩, .string ⟨#[]⟩, .int .i64 0, .int .i64 0, .int .i64 0, .string ⟨#[]⟩, .string ⟨#[]⟩, .string ⟨#[]⟩, .int .i64 0, .int .i64 0] 48 (fun w => by kernel_rfl) ?_; intro b1 w2 hq1 hq2 hq3 hq4; have Kb1 := hid hq1; have Lw2 := hid hq2; have Zb1 := hid (And.intro hq3 hq4); clear hq1 hq2 hq3 hq4)
  | ((with_reducible show wpList _ _ _ (Oper.mk (some 23) _ _ _ _ _ :: _) _ _); refine zB7 (by rfl) 50 1 _ (by rfl) #[(0, .agg #[.int .i64 1, .string ⟨#[]⟩, .string ⟨#[112]⟩, .string ⟨#[97]⟩, .int .i64 0, .slice none 0 0, .int .i64 0, .int .i64 0, .int .i64 0, .string ⟨#[]⟩, .string ⟨#[]⟩, .string ⟨#[]⟩, .int .i64 0, .int .i64 0, .int .i64 0, .string ⟨#[]⟩, .string ⟨#[]⟩, .string ⟨#[]⟩, .int .i64 1, .int .i64 m])] (by simp [Act.eval, Act.put]) [.int .i64 1, .string ⟨#[]⟩, .string ⟨#[112]⟩, .string ⟨#[97]⟩, .int .i64 0, .slice none 0 0, .int .i64 0, .int .i64 0, .int .i64 0, .string ⟨#[]⟩, .string ⟨#[]⟩, .string ⟨#[]⟩, .int .i64 0, .int .i64 0, .int .i64 0, .string ⟨#[]⟩, .string ⟨#[]⟩, .string ⟨#[]⟩, .int .i64 1, .int .i64 m] 78 (fun w => by kernel_rfl) ?_; intro b2 w3 hq1 hq2 hq3 hq4; have Kb2 := hid hq1; have Lw3 := hid hq2; have Zb2 := hid (And.intro hq3 hq4); clear hq1 hq2 hq3 hq4)
  | ((with_reducible show wpList _ _ _ (Oper.mk (some 25) _ _ _ _ _ :: _) _ _); refine zB7 (by rfl) 26 1 _ (by rfl) #[(0, .agg #[.string ⟨#[114]⟩, .slice (some ⟨b1, 0, none⟩) 1 1, .slice none 0 0, .slice (some ⟨b2, 0, none⟩) 1 1, .slice none 0 0, .string ⟨#[]⟩, .slice none 0 0])] (by simp [Act.eval, Act.put]) [.string ⟨#[114]⟩, .slice (some ⟨b1, 0, none⟩) 1 1, .slice none 0 0, .slice (some ⟨b2, 0, none⟩) 1 1, .slice none 0 0, .string ⟨#[]⟩, .slice none 0 0] 56 (fun w => by kernel_rfl) ?_; intro b3 w4 hq1 hq2 hq3 hq4; have Kb3 := hid hq1; have Lw4 := hid hq2; have Zb3 := hid (And.intro hq3 hq4); clear hq1 hq2 hq3 hq4)
  | ((with_reducible show wpList _ _ _ (Oper.mk _ (.store 28 _ _) _ _ _ _ :: _) _ _); refine zB9 28 w4.heap.size 0 [.slice none 0 0, .slice none 0 0] 28 [.slice (some ⟨b + 4, 0, none⟩) 5 5, .slice (some ⟨b3, 0, none⟩) 1 1] (heap_alloc_new _ _) ?_; intro wz hq1 hq2; have HU := hid hq1; have LWz : Hid (Below w4.heap.size w4 wz) := zAP ((Below.refl _ _).alloc (Nat.le_refl _) (.cells #[.slice none 0 0, .slice none 0 0] 28)) hq2 (Nat.le_refl _); clear hq1 hq2))
 have L3 := LWz.out
 have L2 := zAA Lw4.out L3 Lw4.out.size
 have L1 := zAA Lw3.out L2 Lw3.out.size
 have Lq0 := zAA Lw2.out L1 Lw2.out.size
 have HBW := hid (zAA L0.out Lq0 L0.out.size)
 have HK1 := hid ((L1.block _ (zAH Kb1.out)).trans Kb1.out)
 have HK2 := hid ((L2.block _ (zAH Kb2.out)).trans Kb2.out)
 have HK3 := hid ((L3.block _ (zAH Kb3.out)).trans Kb3.out)
 have HTR := hid (HTB.out.later (fun i o hi _ _ => (Lq0.block _ (zAH hi)).trans hi)).rd
 obtain ⟨bz, hbz⟩ : ∃ z, w4.heap.size = z := ⟨_, rfl⟩
 rw [hbz] at HU ⊢
 have HUU := HU
 clear hbz HU LWz HTB HPK HTY Lq0 L1 L2 L3 Lw2 Lw3 Lw4 Kb1 Zb1 Kb2 Zb2 Kb3 Zb3 L0
 have HRR : Hid (Rd wz (.row 56 7 ([fwR m].map encR)) (.slice (some ⟨b3, 0, none⟩) 1 1)) := rd_r1 HK3.out (rd_p1 HK1.out) (.nil _ _ none 0 (Nat.zero_le _)) (rd_m1 HK2.out) (.nil _ _ none 0 (Nat.zero_le _))
 clear HK1 HK2 HK3
 go_upto_region 5 with (first
  | ((with_reducible show wpList _ _ _ (Oper.mk (some 31) _ _ _ _ _ :: _) _ _); refine zB7 (by rfl) 33 1 _ (by rfl) #[(0, .agg #[.int .i64 1, .int .i64 0, .string ⟨#[]⟩])] (by simp [Act.eval, Act.put]) [.int .i64 1, .int .i64 0, .string ⟨#[]⟩] 42 (fun w => by kernel_rfl) ?_; intro b4 w5 hq1 hq2 hq3 hq4; have Kb4 := hid hq1; have Lw5 := hid hq2; have Zb4 := hid (And.intro hq3 hq4); clear hq1 hq2 hq3 hq4)
  | ((with_reducible show wpList _ _ _ (Oper.mk _ (.store 35 _ _) _ _ _ _ :: _) _ _); refine zB9 35 w5.heap.size 0 [.int .i64 0, .int .i64 0, .int .i64 0, .int .i64 0, .slice none 0 0] 35 [.int .i64 1, .int .i64 0, .int .i64 0, .int .i64 en_, .slice (some ⟨b4, 0, none⟩) 1 1] (heap_alloc_new _ _) ?_; intro w6 hq1 hq2; have HY : Hid (w6.heap[w5.heap.size]? = some (.cells #[.int .i64 1, .int .i64 0, .int .i64 0, .int .i64 en_, .slice (some ⟨b4, 0, none⟩) 1 1] 35 (0, 0))) := hq1; have Lw6 : Hid (Below w5.heap.size w5 w6) := zAP ((Below.refl _ _).alloc (Nat.le_refl _) (.cells #[.int .i64 0, .int .i64 0, .int .i64 0, .int .i64 0, .slice none 0 0] 35)) hq2 (Nat.le_refl _); clear hq1 hq2))
 obtain ⟨by_, hby⟩ : ∃ z, w5.heap.size = z := ⟨_, rfl⟩
 rw [hby] at HY ⊢
 have HZ46 := hid (zAA Lw5.out Lw6.out Lw5.out.size)
 have KV4 := hid ((Lw6.out.block _ (zAH Kb4.out)).trans Kb4.out)
 clear hby
 go_upto_region 6 with (first | ((with_reducible show wpList _ _ _ (Oper.mk _ (.store 35 _ _) _ _ _ _ :: _) _ _); refine zB9 35 w6.heap.size 0 [.int .i64 0, .int .i64 0, .int .i64 0, .int .i64 0, .slice none 0 0] 35 [.int .i64 2, .int .i64 2, .int .i64 50, .int .i64 50, .slice none 0 0] (heap_alloc_new _ _) ?_; intro w7 hq1 hq2; have HX : Hid (w7.heap[w6.heap.size]? = some (.cells #[.int .i64 2, .int .i64 2, .int .i64 50, .int .i64 50, .slice none 0 0] 35 (0, 0))) := hq1; have Lw7 : Hid (Below w6.heap.size w6 w7) := zAP ((Below.refl _ _).alloc (Nat.le_refl _) (.cells #[.int .i64 0, .int .i64 0, .int .i64 0, .int .i64 0, .slice none 0 0] 35)) hq2 (Nat.le_refl _); clear hq1 hq2))
 obtain ⟨bx_, hbx⟩ : ∃ z, w6.heap.size = z := ⟨_, rfl⟩
 rw [hbx] at HX ⊢
 clear hbx
 go_upto_region 7 with (first
  | ((with_reducible show wpList _ _ _ (Oper.mk (some 37) _ _ _ _ _ :: _) _ _); refine zB7 (by rfl) 33 1 _ (by rfl) #[(0, .agg #[.int .i64 1, .int .i64 0, .string ⟨#[]⟩])] (by simp [Act.eval, Act.put]) [.int .i64 1, .int .i64 0, .string ⟨#[]⟩] 42 (fun w => by kernel_rfl) ?_; intro b5 w8 hq1 hq2 hq3 hq4; have Kb5 := hid hq1; have Lw8 := hid hq2; have Zb5 := hid (And.intro hq3 hq4); clear hq1 hq2 hq3 hq4)
  | ((with_reducible show wpList _ _ _ (Oper.mk _ (.store 35 _ _) _ _ _ _ :: _) _ _); refine zB9 35 w8.heap.size 0 [.int .i64 0, .int .i64 0, .int .i64 0, .int .i64 0, .slice none 0 0] 35 [.int .i64 3, .int .i64 0, .int .i64 51, .int .i64 51, .slice (some ⟨b5, 0, none⟩) 1 1] (heap_alloc_new _ _) ?_; intro w9 hq1 hq2; have HZ : Hid (w9.heap[w8.heap.size]? = some (.cells #[.int .i64 3, .int .i64 0, .int .i64 51, .int .i64 51, .slice (some ⟨b5, 0, none⟩) 1 1] 35 (0, 0))) := hq1; have Lw9 : Hid (Below w8.heap.size w8 w9) := zAP ((Below.refl _ _).alloc (Nat.le_refl _) (.cells #[.int .i64 0, .int .i64 0, .int .i64 0, .int .i64 0, .slice none 0 0] 35)) hq2 (Nat.le_refl _); clear hq1 hq2))
 obtain ⟨bz_, hbz⟩ : ∃ z, w8.heap.size = z := ⟨_, rfl⟩
 rw [hbz] at HZ ⊢
 clear hbz
 have l89 := zAA Lw8.out Lw9.out Lw8.out.size
 have l79 := zAA Lw7.out l89 Lw7.out.size
 have HZ9 := hid (zAA HZ46.out l79 HZ46.out.size)
 have HYY := hid ((l79.block _ (zAH HY.out)).trans HY.out)
 have HXX := hid ((l89.block _ (zAH HX.out)).trans HX.out)
 have KY := hid ((l79.block _ (zAH KV4.out)).trans KV4.out)
 have KZ := hid ((Lw9.out.block _ (zAH Kb5.out)).trans Kb5.out)
 have HU9 := hid ((HZ9.out.block _ (zAH HUU.out)).trans HUU.out)
 clear l89 l79 HY HX KV4 Kb4 Kb5 Zb4 Zb5 Lw5 Lw6 Lw7 Lw8 Lw9 HZ46 HUU
 have HWF := hid (fun (W : World) (c6 c7 : Nat) (hW : Below w9.heap.size w9 W) (h6 : W.heap[c6]? = some (.cells #[.int .i64 2, .int .i64 2, .int .i64 50, .int .i64 50, .slice none 0 0] 35 (0, 0))) (h7 : W.heap[c7]? = some (.cells #[.int .i64 1, .int .i64 0, .int .i64 0, .int .i64 en_, .slice (some ⟨b4, 0, none⟩) 1 1, .int .i64 2, .int .i64 2, .int .i64 50, .int .i64 50, .slice none 0 0, .int .i64 3, .int .i64 0, .int .i64 51, .int .i64 51, .slice (some ⟨b5, 0, none⟩) 1 1] 35 (0, 0))) => by
  have hz := zAA HZ9.out hW HZ9.out.size
  have hw9 := zAA HBW.out hz HBW.out.size
  have ky := (hW.block _ (zAH KY.out)).trans KY.out
  have kz := (hW.block _ (zAH KZ.out)).trans KZ.out
  have rv : ∀ b, W.heap[b]? = some (.cells #[.int .i64 1, .int .i64 0, .string ⟨#[]⟩] 42 (0, 0)) → Rd W (.row 42 3 ([vI0].map encV)) (.slice (some ⟨b, 0, none⟩) 1 1) := fun b h => zBA (l := [vI0].map encV) h (by simp) (by show 1 ≤ maxLen; decide) (.cons (.lit _) (.cons (.lit _) (.cons (.lit _) (RdL.nil _))))
  have r6 : Rd W (.row 35 5 ([xE].map encX)) (.slice (some ⟨c6, 0, none⟩) 1 1) := zBA (l := [xE].map encX) h6 (by simp) (by show 1 ≤ maxLen; decide) (.cons (.lit _) (.cons (.lit _) (.cons (.lit _) (.cons (.lit _) (.cons (.nil _ _ none 0 (Nat.zero_le _)) (RdL.nil _))))))
  have r7 : Rd W (.row 35 5 ([yE k, xE, zE].map encX)) (.slice (some ⟨c7, 0, none⟩) 3 3) := zBA (l := [yE k, xE, zE].map encX) h7 (by simp) (by show 3 ≤ maxLen; decide) (by
   have e := HEN.out
   subst e
   exact .cons (.lit _) (.cons (.lit _) (.cons (.lit _) (.cons (.lit _) (.cons (rv _ ky) (.cons (.lit _) (.cons (.lit _) (.cons (.lit _) (.cons (.lit _) (.cons (.nil _ _ none 0 (Nat.zero_le _)) (.cons (.lit _) (.cons (.lit _) (.cons (.lit _) (.cons (.lit _) (.cons (rv _ kz) (RdL.nil _))))))))))))))))
  exact fires_fw HG.out.1 HG.out.2.1 HG.out.2.2.1 HG.out.2.2.2 _ _ _ _ _ _ _ _ _ _ W (HTR.out.later hz) (HRR.out.later hz) r6 r7 (zAF htk hw9) (zAF htr hw9))
 have HBW9 := hid (zAA HBW.out HZ9.out HBW.out.size)
 clear htk htr HTR HRR KY KZ HBW HZ9 HEN
 go_upto_region 8 with (first
  | ((with_reducible show wpList _ _ _ (Oper.mk (some 40) _ _ _ _ _ :: _) _ _); refine wpList_load_mid (by rfl) 28 _ (by rfl) bz 0 (by rfl) [.slice (some ⟨b + 4, 0, none⟩) 5 5, .slice (some ⟨b3, 0, none⟩) 1 1] _ (zAE HU9.out) Tryz.underlying28 rfl (by kernel_rfl) ?_)
  | ((with_reducible show wpList _ _ _ (Oper.mk (some 41) _ _ _ _ _ :: _) _ _); refine wpList_load_mid (by rfl) 35 _ (by rfl) bx_ 0 (by rfl) [.int .i64 2, .int .i64 2, .int .i64 50, .int .i64 50, .slice none 0 0] _ (zAE HXX.out) Tryz.underlying35 rfl (by kernel_rfl) ?_)
  | ((with_reducible show wpList _ _ _ (Oper.mk (some 42) _ _ _ _ _ :: _) _ _); refine zB7 (by rfl) 82 1 _ (by rfl) #[(0, .agg #[.int .i64 2, .int .i64 2, .int .i64 50, .int .i64 50, .slice none 0 0])] (by simp [Act.eval, Act.put]) [.int .i64 2, .int .i64 2, .int .i64 50, .int .i64 50, .slice none 0 0] 35 (fun w => by kernel_rfl) ?_; intro b6 w10 hq1 hq2 hq3 hq4; have Kb6 := hid hq1; have Lw10 := hid hq2; have Zb6 := hid (And.intro hq3 hq4); clear hq1 hq2 hq3 hq4)
  | ((with_reducible show wpList _ _ _ (Oper.mk (some 43) _ _ _ _ _ :: _) _ _); refine wpList_load_mid (by rfl) 35 _ (by rfl) by_ 0 (by rfl) [.int .i64 1, .int .i64 0, .int .i64 0, .int .i64 en_, .slice (some ⟨b4, 0, none⟩) 1 1] _ (zAE ((Lw10.out.block _ (zAH HYY.out)).trans HYY.out)) Tryz.underlying35 rfl (by kernel_rfl) ?_)
  | ((with_reducible show wpList _ _ _ (Oper.mk (some 44) _ _ _ _ _ :: _) _ _); refine wpList_load_mid (by rfl) 35 _ (by rfl) bx_ 0 (by rfl) [.int .i64 2, .int .i64 2, .int .i64 50, .int .i64 50, .slice none 0 0] _ (zAE ((Lw10.out.block _ (zAH HXX.out)).trans HXX.out)) Tryz.underlying35 rfl (by kernel_rfl) ?_)
  | ((with_reducible show wpList _ _ _ (Oper.mk (some 45) _ _ _ _ _ :: _) _ _); refine wpList_load_mid (by rfl) 35 _ (by rfl) bz_ 0 (by rfl) [.int .i64 3, .int .i64 0, .int .i64 51, .int .i64 51, .slice (some ⟨b5, 0, none⟩) 1 1] _ (zAE ((Lw10.out.block _ (zAH HZ.out)).trans HZ.out)) Tryz.underlying35 rfl (by kernel_rfl) ?_)
  | ((with_reducible show wpList _ _ _ (Oper.mk (some 46) _ _ _ _ _ :: _) _ _); refine zB7 (by rfl) 82 3 _ (by rfl) #[(0, .agg #[.int .i64 1, .int .i64 0, .int .i64 0, .int .i64 en_, .slice (some ⟨b4, 0, none⟩) 1 1]), (1, .agg #[.int .i64 2, .int .i64 2, .int .i64 50, .int .i64 50, .slice none 0 0]), (2, .agg #[.int .i64 3, .int .i64 0, .int .i64 51, .int .i64 51, .slice (some ⟨b5, 0, none⟩) 1 1])] (by simp [Act.eval, Act.put]) [.int .i64 1, .int .i64 0, .int .i64 0, .int .i64 en_, .slice (some ⟨b4, 0, none⟩) 1 1, .int .i64 2, .int .i64 2, .int .i64 50, .int .i64 50, .slice none 0 0, .int .i64 3, .int .i64 0, .int .i64 51, .int .i64 51, .slice (some ⟨b5, 0, none⟩) 1 1] 35 (fun w => by kernel_rfl) ?_; intro b7 w11 hq1 hq2 hq3 hq4; have Kb7 := hid hq1; have Lw11 := hid hq2; have Zb7 := hid (And.intro hq3 hq4); clear hq1 hq2 hq3 hq4)
  | (go_at_call 17; refine (HWF.out w11 b6 b7 (zAA Lw10.out Lw11.out Lw10.out.size) ((Lw11.out.block _ (zAH Kb6.out)).trans Kb6.out) Kb7.out).mono ?_; rintro e w12 ⟨rfl, hb⟩; have L12 := hid hb; clear hb))
 have HBW12 := hid (zAA HBW9.out (zAA (zAA Lw10.out Lw11.out Lw10.out.size) L12.out (zAA Lw10.out Lw11.out Lw10.out.size).size) HBW9.out.size)
 clear HWF HU9 HXX HYY HZ Kb6 Kb7 Zb6 Zb7 Lw10 Lw11 L12 HBW9
 go_wp2_with fail
 go_ret
 exact ⟨zAO (by first | rfl | simp), HBW12.out⟩
end Go.Proofs.YtnlmknbhppdliaaGreatDoor.Chk
