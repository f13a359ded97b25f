/-
  Parts of books of raw numbers. An option of raw numbers.
-/
import Derived.Deep.MidRow
import Derived.Test.YtnlmknbhppdliaaGreatDoorS
import Derived.Test.YtnlmknbhppdliaaGreatDoorV4K
set_option maxHeartbeats 64000000
namespace Go.Proofs.YtnlmknbhppdliaaGreatDoor.Chk
open Go.ChangeShapes Go.WideShapes Go.ChangeAt Go.RowKit Go.Maps
set_option linter.unusedVariables false
set_option linter.unusedSimpArgs false
set_option maxRecDepth 20000
theorem tm_bd (n m : Int) (hn : n < 0) (hm : 0 < m) : 0 ≤ -((n + 1).tmod m) ∧ -((n + 1).tmod m) < m := by
  have e : -((n + 1).tmod m) = (-(n + 1)).tmod m := (Int.neg_tmod _ _).symm
  rw [e]
  exact ⟨Int.tmod_nonneg _ (by omega), Int.tmod_lt_of_pos _ hm⟩
def pkd (n m : Int) : Int := if 0 ≤ n then n % m else -((n + 1).tmod m)
theorem zAQ (n : Int) {m : Int} (hm : 0 < m) : 0 ≤ pkd n m ∧ pkd n m < m := by
 unfold pkd
 split
 . exact ⟨Int.emod_nonneg n (by omega), Int.emod_lt_of_pos n hm⟩
 . rename_i h
   exact tm_bd n m (by omega) hm
theorem zAF (n m : Int) (w : World) (hn1 : -9223372036854775808 ≤ n) (hn2 : n ≤ 9223372036854775807) (hm : 0 < m) (hm2 : m ≤ 1099511627776) :
   Calls Tryz.prog 9 #[.int .i64 n, .int .i64 m] w fun e w' => e = .returned (.int .i64 (pkd n m)) ∧ w' = w := by
 have hm0 : ¬ m = 0 := by omega
 by_cases h : 0 ≤ n
 . have HP := hid (show pkd n m = n % m by unfold pkd; rw [if_pos h])
   go_enter Tryz.func9, Tryz.ntmps9
   go_wp2
   go_ret
   rw [HP.out]
   exact ⟨rfl, rfl⟩
 . have h' : n < 0 := by omega
   have HP := hid (show pkd n m = -((n + 1).tmod m) by unfold pkd; rw [if_neg h])
   go_enter Tryz.func9, Tryz.ntmps9
   go_wp2
   go_ret
   rw [HP.out]
   exact ⟨rfl, rfl⟩
theorem zB4 {W : World} {b : Nat} {cs : List Value} {U e : TypeId} {z : Nat} {l : List (List Dat)} (hb : W.heap[b]? = some (.cells cs.toArray U (0, 0))) (hl : 0 < l.length) (hm : l.length ≤ maxLen) (h : RdL W l.flatten cs) : Rd W (.row e z l) (.slice (some ⟨b, 0, none⟩) l.length l.length) :=
  Rd.row (w := W) e z l b 0 l.length cs hl (Nat.le_refl _) hm (fun j u hu => by rw [Nat.zero_add, zAB hb]; simpa using hu) h.1 h.2
section
variable {P : Program} {ops : Array Oper} {rest : List Oper} {o : Oper} {a : Act} {w : World} {Q : Exit → Act → World → Prop}
theorem zCQ (hgd : o.guard = none) (t : TypeId) (n : Nat) (parts : Array (Nat × Operand)) (ho : o.op = .buildSlice t n parts) (vals : Array (Nat × Value)) (hp : (parts.map fun x => (x.1, a.eval x.2)) = vals) (cs : List Value) (U : TypeId) (hv : ∀ w, (Instr.buildSlice t n vals).run P w = .ok (.slice (some ⟨w.heap.size, 0, none⟩) n n) (w.alloc (.cells cs.toArray U)))
  (h : ∀ b w', w'.heap[b]? = some (.cells cs.toArray U (0, 0)) → Below w.heap.size w w' → wpList P ops Q rest (a.put o.dst (.slice (some ⟨b, 0, none⟩) n n)) w') : wpList P ops Q (o :: rest) a w := by
 refine wpList_plain hgd fun K hK => ?_
 unfold Oper.wp execOp
 simp only [ho, Sem.run_bind, hp, hv, Result.andThen_ok, Sem.run_pure]
 exact hK _ _ (h _ _ (heap_alloc_new _ _) ((Below.refl _ _).alloc (Nat.le_refl _) _))
end
theorem zA3 (nm : ByteArray) (w : World) : Calls Tryz.prog 21 #[.string nm] w fun e w' => e = .returned (opV (ownO nm)) ∧ Below w.heap.size w w' := by
 go_enter Tryz.func21, Tryz.ntmps21
 go_wp2_with (first
  | ((with_reducible show wpList _ _ _ (Oper.mk (some 4) _ _ _ _ _ :: _) _ _); refine zBM (by rfl) 44 _ (by rfl) #[(0, .int .i64 2), (3, .string nm)] (by simp [Act.eval, Act.put]) (.agg #[.int .i64 2, .int .i64 0, .int .i64 0, .string ⟨#[]⟩, .string ⟨#[]⟩, .string nm]) (fun w => by kernel_rfl) ?_)
  | ((with_reducible refine gSq ?_); refine zAY 44 (w.heap.size) 0 [.int .i64 0, .int .i64 0, .int .i64 0, .string ⟨#[]⟩, .string ⟨#[]⟩, .string ⟨#[]⟩] 44 [.int .i64 2, .int .i64 0, .int .i64 0, .string ⟨#[]⟩, .string ⟨#[]⟩, .string nm] (heap_alloc_new _ _) ?_; intro w2 hblk hfr; have HW2 := hid hblk; have HBE : Hid (Below w.heap.size w w2) := zAI hfr; clear hblk hfr))
 exact zAR w.heap.size [.int .i64 2, .int .i64 0, .int .i64 0, .string ⟨#[]⟩, .string ⟨#[]⟩, .string nm] 44 _ HW2.out rfl rfl (by rfl) Tryz.underlying44 rfl (by kernel_rfl) ⟨rfl, HBE.out⟩
theorem zAO (n : Int) (w : World) : Calls Tryz.prog 20 #[.int .i64 n] w fun e w' => e = .returned (opV (numO n)) ∧ Below w.heap.size w w' := by
 go_enter Tryz.func20, Tryz.ntmps20
 go_wp2_with (first
  | ((with_reducible show wpList _ _ _ (Oper.mk (some 4) _ _ _ _ _ :: _) _ _); refine zBM (by rfl) 42 _ (by rfl) #[(0, .int .i64 1), (1, .int .i64 n)] (by simp [Act.eval, Act.put]) (.agg #[.int .i64 1, .int .i64 n, .string ⟨#[]⟩]) (fun w => by kernel_rfl) ?_)
  | ((with_reducible show wpList _ _ _ (Oper.mk (some 5) _ _ _ _ _ :: _) _ _); refine zBM (by rfl) 44 _ (by rfl) #[(0, .int .i64 1), (1, .agg #[.int .i64 1, .int .i64 n, .string ⟨#[]⟩])] (by simp [Act.eval, Act.put]) (.agg #[.int .i64 1, .int .i64 1, .int .i64 n, .string ⟨#[]⟩, .string ⟨#[]⟩, .string ⟨#[]⟩]) (fun w => by kernel_rfl) ?_)
  | ((with_reducible refine gSq ?_); refine zAY 44 (w.heap.size) 0 [.int .i64 0, .int .i64 0, .int .i64 0, .string ⟨#[]⟩, .string ⟨#[]⟩, .string ⟨#[]⟩] 44 [.int .i64 1, .int .i64 1, .int .i64 n, .string ⟨#[]⟩, .string ⟨#[]⟩, .string ⟨#[]⟩] (heap_alloc_new _ _) ?_; intro w2 hblk hfr; have HW2 := hid hblk; have HBE : Hid (Below w.heap.size w w2) := zAI hfr; clear hblk hfr))
 exact zAR w.heap.size [.int .i64 1, .int .i64 1, .int .i64 n, .string ⟨#[]⟩, .string ⟨#[]⟩, .string ⟨#[]⟩] 44 _ HW2.out rfl rfl (by rfl) Tryz.underlying44 rfl (by kernel_rfl) ⟨rfl, HBE.out⟩
theorem compare_any (k : Int) (a b : Opd) (w : World) : Calls Tryz.prog 19 #[.int .i64 k, opV a, opV b] w fun e w' => e = .returned (cnV k (.slice none 0 0) a b) ∧ Below w.heap.size w w' := by
 obtain ⟨ak, avk, avi, avt, ava, afd⟩ := a
 obtain ⟨bk, bvk, bvi, bvt, bva, bfd⟩ := b
 have hB := bxs3 w [.int .i64 ak, .int .i64 avk, .int .i64 avi, .string avt, .string ava, .string afd] [.int .i64 bk, .int .i64 bvk, .int .i64 bvi, .string bvt, .string bva, .string bfd] [.int .i64 0, .slice none 0 0, .int .i64 0, .int .i64 0, .int .i64 0, .string ⟨#[]⟩, .string ⟨#[]⟩, .string ⟨#[]⟩, .int .i64 0, .int .i64 0, .int .i64 0, .string ⟨#[]⟩, .string ⟨#[]⟩, .string ⟨#[]⟩] 44 44 46
 have X0 := hid (hB.r 0 (by simp))
 have X1 := hid (hB.r 1 (by simp))
 have HZ := hid (hB.b 2 (by simp))
 have HB := hid hB.bel
 clear hB
 go_enter Tryz.func19, Tryz.ntmps19
 go_wp2_with (first
  | ((with_reducible show wpList _ _ _ (Oper.mk (some 8) _ _ _ _ _ :: _) _ _); refine wpList_load_mid (by rfl) 44 _ (by rfl) w.heap.size 0 (by rfl) [.int .i64 ak, .int .i64 avk, .int .i64 avi, .string avt, .string ava, .string afd] _ X0.out Tryz.underlying44 rfl (by kernel_rfl) ?_)
  | ((with_reducible show wpList _ _ _ (Oper.mk (some 9) _ _ _ _ _ :: _) _ _); refine wpList_load_mid (by rfl) 44 _ (by rfl) (w.heap.size + 1) 0 (by rfl) [.int .i64 bk, .int .i64 bvk, .int .i64 bvi, .string bvt, .string bva, .string bfd] _ X1.out Tryz.underlying44 rfl (by kernel_rfl) ?_)
  | ((with_reducible show wpList _ _ _ (Oper.mk (some 10) _ _ _ _ _ :: _) _ _); refine zBM (by rfl) 46 _ (by rfl) #[(0, .int .i64 k), (2, .agg #[.int .i64 ak, .int .i64 avk, .int .i64 avi, .string avt, .string ava, .string afd]), (3, .agg #[.int .i64 bk, .int .i64 bvk, .int .i64 bvi, .string bvt, .string bva, .string bfd])] (by simp [Act.eval, Act.put]) (.agg #[.int .i64 k, .slice none 0 0, .int .i64 ak, .int .i64 avk, .int .i64 avi, .string avt, .string ava, .string afd, .int .i64 bk, .int .i64 bvk, .int .i64 bvi, .string bvt, .string bva, .string bfd]) (fun w => by kernel_rfl) ?_)
  | ((with_reducible refine gSq ?_); refine zAY 46 (w.heap.size + 2) 0 _ 46 [.int .i64 k, .slice none 0 0, .int .i64 ak, .int .i64 avk, .int .i64 avi, .string avt, .string ava, .string afd, .int .i64 bk, .int .i64 bvk, .int .i64 bvi, .string bvt, .string bva, .string bfd] HZ.out ?_; intro w2 hblk hfr; have HW2 := hid hblk; have HBE : Hid (Below w.heap.size w w2) := zAG HB.out hfr (by omega); clear hblk hfr))
 exact zAR (w.heap.size + 2) [.int .i64 k, .slice none 0 0, .int .i64 ak, .int .i64 avk, .int .i64 avi, .string avt, .string ava, .string afd, .int .i64 bk, .int .i64 bvk, .int .i64 bvi, .string bvt, .string bva, .string bfd] 46 _ HW2.out rfl rfl (by rfl) Tryz.underlying46 rfl (by kernel_rfl) ⟨rfl, HBE.out⟩
theorem zA7 {w : World} (k : Int) (a b : Opd) : RdL w (encC (cmpC k a b)) (cnC k (.slice none 0 0) a b) := .cons (.lit _) (.cons (.nil _ _ none 0 (Nat.zero_le _)) (zAX [.int .i64 a.k, .int .i64 a.vk, .int .i64 a.vi, .string a.vt, .string a.va, .string a.fd, .int .i64 b.k, .int .i64 b.vk, .int .i64 b.vi, .string b.vt, .string b.va, .string b.fd]))
def Tys (W : World) (b : Nat) : Prop := W.heap[b]? = some (.cells #[.string ⟨#[110]⟩, .int .i64 1] 103 (0, 0)) ∧ W.heap[b + 1]? = some (.cells #[.string ⟨#[110]⟩, .int .i64 1, .string ⟨#[115]⟩, .int .i64 2] 103 (0, 0)) ∧ W.heap[b + 2]? = some (.cells #[.string ⟨#[110]⟩, .int .i64 1] 103 (0, 0)) ∧ W.heap[b + 3]? = some (.cells #[.string ⟨#[110]⟩, .int .i64 1] 103 (0, 0)) ∧ W.heap[b + 4]? = some (.cells #[.string ⟨#[97]⟩, .slice (some ⟨b, 0, none⟩) 1 1, .string ⟨#[98]⟩, .slice (some ⟨b + 1, 0, none⟩) 2 2, .string ⟨#[99]⟩, .slice none 0 0, .string ⟨#[100]⟩, .slice (some ⟨b + 2, 0, none⟩) 1 1, .string ⟨#[101]⟩, .slice (some ⟨b + 3, 0, none⟩) 1 1] 59 (0, 0))
theorem Tys.later {W W' : World} {b : Nat} (h : Tys W b) (hb : ∀ i o, W.heap[i]? = some o → b ≤ i → i < b + 5 → W'.heap[i]? = some o) : Tys W' b := ⟨hb _ _ h.1 (by omega) (by omega), hb _ _ h.2.1 (by omega) (by omega), hb _ _ h.2.2.1 (by omega) (by omega), hb _ _ h.2.2.2.1 (by omega) (by omega), hb _ _ h.2.2.2.2 (by omega) (by omega)⟩
theorem Tys.rd {W : World} {b : Nat} (h : Tys W b) : Rd W (.row 59 2 (kts.map encY)) (.slice (some ⟨b + 4, 0, none⟩) 5 5) := by
  obtain ⟨h0, h1, h2, h3, h4⟩ := h
  have r0 : Rd W (.row 103 2 (([⟨txt [110], 1⟩] : List Fd).map encF)) (.slice (some ⟨b, 0, none⟩) 1 1) := zB4 (l := ([⟨txt [110], 1⟩] : List Fd).map encF) h0 (by decide) (by decide) (zAX [.string (txt [110]), .int .i64 1])
  have r1 : Rd W (.row 103 2 (([⟨txt [110], 1⟩, ⟨txt [115], 2⟩] : List Fd).map encF)) (.slice (some ⟨b + 1, 0, none⟩) 2 2) := zB4 (l := ([⟨txt [110], 1⟩, ⟨txt [115], 2⟩] : List Fd).map encF) h1 (by decide) (by decide) (zAX [.string (txt [110]), .int .i64 1, .string (txt [115]), .int .i64 2])
  have r2 : Rd W (.row 103 2 (([⟨txt [110], 1⟩] : List Fd).map encF)) (.slice (some ⟨b + 2, 0, none⟩) 1 1) := zB4 (l := ([⟨txt [110], 1⟩] : List Fd).map encF) h2 (by decide) (by decide) (zAX [.string (txt [110]), .int .i64 1])
  have r3 : Rd W (.row 103 2 (([⟨txt [110], 1⟩] : List Fd).map encF)) (.slice (some ⟨b + 3, 0, none⟩) 1 1) := zB4 (l := ([⟨txt [110], 1⟩] : List Fd).map encF) h3 (by decide) (by decide) (zAX [.string (txt [110]), .int .i64 1])
  have rc : Rd W (.row 103 2 (([] : List Fd).map encF)) (.slice none 0 0) := .nil _ _ none 0 (Nat.zero_le _)
  exact zB4 (l := kts.map encY) h4 (by decide) (by decide) (.cons (.lit _) (.cons r0 (.cons (.lit _) (.cons r1 (.cons (.lit _) (.cons rc (.cons (.lit _) (.cons r2 (.cons (.lit _) (.cons r3 (RdL.nil _)))))))))))
theorem zJ7 (w : World) : Calls Tryz.prog 12 #[] w fun e w' => ∃ b, e = .returned (.slice (some ⟨b + 4, 0, none⟩) 5 5) ∧ w.heap.size ≤ b ∧ Tys w' b ∧ Below w.heap.size w w' := by
  have hB := (bxs4 w [.string ⟨#[110]⟩, .int .i64 1] [.string ⟨#[110]⟩, .int .i64 1, .string ⟨#[115]⟩, .int .i64 2] [.string ⟨#[110]⟩, .int .i64 1] [.string ⟨#[110]⟩, .int .i64 1] 103 103 103 103).snoc (by simp) [.string ⟨#[97]⟩, .slice (some ⟨w.heap.size, 0, none⟩) 1 1, .string ⟨#[98]⟩, .slice (some ⟨w.heap.size + 1, 0, none⟩) 2 2, .string ⟨#[99]⟩, .slice none 0 0, .string ⟨#[100]⟩, .slice (some ⟨w.heap.size + 1 + 1, 0, none⟩) 1 1, .string ⟨#[101]⟩, .slice (some ⟨w.heap.size + 1 + 1 + 1, 0, none⟩) 1 1] 59
  have HT := hid (show Tys _ w.heap.size from ⟨hB.b 0 (by simp), hB.b 1 (by simp), hB.b 2 (by simp), hB.b 3 (by simp), hB.b 4 (by simp)⟩)
  have HB := hid hB.bel
  clear hB
  go_enter Tryz.func12, Tryz.ntmps12
  go_wp2_with fail
  go_ret
  exact ⟨w.heap.size, rfl, Nat.le_refl _, HT.out, HB.out⟩
theorem zCP {P : Program} {fn : Func} {p : Tmp} {ty : TypeId} (h : fn.results = #[.cell p ty]) (tmps : Array Value) (w : World) (g : Nat) (cs : List Value) (d : TypeDesc)
  (hp : tmps.getD p undef = .pointer (some ⟨g, 0, none⟩)) (hc : w.rangeAt g 0 cs) (hu : P.underlying ty = some d) (hd : d.isRow = true) (hi : (P.info? ty).map (·.size) = some cs.length) :
  (results fn tmps).run P w = .ok (.agg cs.toArray) w := by
 have hp' : tmps[p]?.getD undef = .pointer (some ⟨g, 0, none⟩) := by simpa using hp
 simp [results, h, hp', asAddr, run_loadVar_mid w g 0 ty cs d hc hu hd hi]
theorem zBN : (Tryz.prog.info? 63).map (·.size) = some 3 := by kernel_rfl
def zFW (low : Int) : Int := if pkd low 3 = 0 then pkd low 6 else 0
def opHi (low high : Int) : Int := if 0 < pkd high 3 then zFW low + pkd high 9 else -1
def opRl (r : Int) : Int := 1 + pkd r 13
def opLo (r low : Int) : Int := if opRl r = 3 ∨ opRl r = 4 ∨ opRl r = 13 then 0 else zFW low
theorem zC8 (r low high : Int) (w : World) (r1 : -9223372036854775808 ≤ r) (r2 : r ≤ 9223372036854775807) (l1 : -9223372036854775808 ≤ low) (l2 : low ≤ 9223372036854775807) (h1 : -9223372036854775808 ≤ high) (h2 : high ≤ 9223372036854775807) :
   Calls Tryz.prog 40 #[.int .i64 r, .int .i64 low, .int .i64 high] w fun e w' => e = .returned (.agg #[.int .i64 (opRl r), .int .i64 (opLo r low), .int .i64 (opHi low high)]) ∧ Below w.heap.size w w' := by
 have P1 := hid (fun W => zAF r 13 W r1 r2 (by decide) (by decide))
 have P2 := hid (fun W => zAF low 3 W l1 l2 (by decide) (by decide))
 have P3 := hid (fun W => zAF low 6 W l1 l2 (by decide) (by decide))
 have P4 := hid (fun W => zAF high 3 W h1 h2 (by decide) (by decide))
 have P5 := hid (fun W => zAF high 9 W h1 h2 (by decide) (by decide))
 have b1 := zAQ r (m := 13) (by decide)
 have b2 := zAQ low (m := 3) (by decide)
 have b3 := zAQ low (m := 6) (by decide)
 have b4 := zAQ high (m := 3) (by decide)
 have b5 := zAQ high (m := 9) (by decide)
 unfold opLo opHi zFW opRl
 generalize pkd r 13 = x1 at *
 generalize pkd low 3 = x2 at *
 generalize pkd low 6 = x3 at *
 generalize pkd high 3 = x4 at *
 generalize pkd high 9 = x5 at *
 have w1 : RowKit.wrap64 (1 + x1) = 1 + x1 := by unfold RowKit.wrap64; omega
 have w2 : RowKit.wrap64 (x3 + x5) = x3 + x5 := by unfold RowKit.wrap64; omega
 have w4 : RowKit.wrap64 x5 = x5 := by unfold RowKit.wrap64; omega
 have w3 : RowKit.wrap64 (0 + x5) = 0 + x5 := by unfold RowKit.wrap64; omega
 by_cases q2 : x2 = 0
 . by_cases q4 : 0 < x4
   . rcases (by omega : 1 + x1 = 3 ∨ 1 + x1 = 4 ∨ 1 + x1 = 13 ∨ (1 + x1 ≠ 3 ∧ 1 + x1 ≠ 4 ∧ 1 + x1 ≠ 13)) with q3 | q3 | q3 | q3
     . have HV : Hid ((if x2 = 0 then x3 else 0) = x3) := by show _ = _; rw [if_pos q2]
       have HH : Hid ((if 0 < x4 then (if x2 = 0 then x3 else 0) + x5 else -1) = x3 + x5) := by show _ = _; rw [if_pos q4, HV.out]
       have HL : Hid ((if 1 + x1 = 3 ∨ 1 + x1 = 4 ∨ 1 + x1 = 13 then 0 else (if x2 = 0 then x3 else 0)) = 0) := by show _ = _; rw [if_pos (by omega)]
       rw [HL.out, HH.out]
       have d2 : (x2 == 0) = true := by simpa using q2
       have d4 : decide (0 < x4) = true := by simp; omega
       have e3 : ((1 + x1 : Int) == 3) = true := by simp; omega
       have e4 : ((1 + x1 : Int) == 4) = false := by simp; omega
       have e13 : ((1 + x1 : Int) == 13) = false := by simp; omega
       clear q2 q3 b1 b2 b3 b4 b5
       go_enter Tryz.func40, Tryz.ntmps40
       go_wp2_with fail
       refine (P1.out _).mono ?_
       rintro e _ ⟨rfl, rfl⟩
       go_wp2_with fail
       refine (P2.out _).mono ?_
       rintro e _ ⟨rfl, rfl⟩
       go_wp2_with fail
       refine (P3.out _).mono ?_
       rintro e _ ⟨rfl, rfl⟩
       go_wp2_with fail
       refine (P4.out _).mono ?_
       rintro e _ ⟨rfl, rfl⟩
       go_wp2_with fail
       go_region_with ((go_at_call 9; refine (P5.out _).mono ?_; rintro e _ ⟨rfl, rfl⟩))
       all_goals
         go_wp2_with fail
         refine bodyPost_ret (zCP (g := w.heap.size) (cs := [.int .i64 (1 + x1), .int .i64 (0), .int .i64 (x3 + x5)]) rfl _ _ _ (by rfl) ?_ Tryz.underlying63 rfl zBN) rfl ?_
         . intro j v hv
           match j, hv with
           | 0, hv => simp at hv; subst hv; simp [go_sem]
           | 1, hv => simp at hv; subst hv; simp [go_sem]
           | 2, hv => simp at hv; subst hv; simp [go_sem]
         . exact ⟨rfl, by go_grown⟩
     . have HV : Hid ((if x2 = 0 then x3 else 0) = x3) := by show _ = _; rw [if_pos q2]
       have HH : Hid ((if 0 < x4 then (if x2 = 0 then x3 else 0) + x5 else -1) = x3 + x5) := by show _ = _; rw [if_pos q4, HV.out]
       have HL : Hid ((if 1 + x1 = 3 ∨ 1 + x1 = 4 ∨ 1 + x1 = 13 then 0 else (if x2 = 0 then x3 else 0)) = 0) := by show _ = _; rw [if_pos (by omega)]
       rw [HL.out, HH.out]
       have d2 : (x2 == 0) = true := by simpa using q2
       have d4 : decide (0 < x4) = true := by simp; omega
       have e3 : ((1 + x1 : Int) == 3) = false := by simp; omega
       have e4 : ((1 + x1 : Int) == 4) = true := by simp; omega
       have e13 : ((1 + x1 : Int) == 13) = false := by simp; omega
       clear q2 q3 b1 b2 b3 b4 b5
       go_enter Tryz.func40, Tryz.ntmps40
       go_wp2_with fail
       refine (P1.out _).mono ?_
       rintro e _ ⟨rfl, rfl⟩
       go_wp2_with fail
       refine (P2.out _).mono ?_
       rintro e _ ⟨rfl, rfl⟩
       go_wp2_with fail
       refine (P3.out _).mono ?_
       rintro e _ ⟨rfl, rfl⟩
       go_wp2_with fail
       refine (P4.out _).mono ?_
       rintro e _ ⟨rfl, rfl⟩
       go_wp2_with fail
       go_region_with ((go_at_call 9; refine (P5.out _).mono ?_; rintro e _ ⟨rfl, rfl⟩))
       all_goals
         go_wp2_with fail
         refine bodyPost_ret (zCP (g := w.heap.size) (cs := [.int .i64 (1 + x1), .int .i64 (0), .int .i64 (x3 + x5)]) rfl _ _ _ (by rfl) ?_ Tryz.underlying63 rfl zBN) rfl ?_
         . intro j v hv
           match j, hv with
           | 0, hv => simp at hv; subst hv; simp [go_sem]
           | 1, hv => simp at hv; subst hv; simp [go_sem]
           | 2, hv => simp at hv; subst hv; simp [go_sem]
         . exact ⟨rfl, by go_grown⟩
     . have HV : Hid ((if x2 = 0 then x3 else 0) = x3) := by show _ = _; rw [if_pos q2]
       have HH : Hid ((if 0 < x4 then (if x2 = 0 then x3 else 0) + x5 else -1) = x3 + x5) := by show _ = _; rw [if_pos q4, HV.out]
       have HL : Hid ((if 1 + x1 = 3 ∨ 1 + x1 = 4 ∨ 1 + x1 = 13 then 0 else (if x2 = 0 then x3 else 0)) = 0) := by show _ = _; rw [if_pos (by omega)]
       rw [HL.out, HH.out]
       have d2 : (x2 == 0) = true := by simpa using q2
       have d4 : decide (0 < x4) = true := by simp; omega
       have e3 : ((1 + x1 : Int) == 3) = false := by simp; omega
       have e4 : ((1 + x1 : Int) == 4) = false := by simp; omega
       have e13 : ((1 + x1 : Int) == 13) = true := by simp; omega
       clear q2 q3 b1 b2 b3 b4 b5
       go_enter Tryz.func40, Tryz.ntmps40
       go_wp2_with fail
       refine (P1.out _).mono ?_
       rintro e _ ⟨rfl, rfl⟩
       go_wp2_with fail
       refine (P2.out _).mono ?_
       rintro e _ ⟨rfl, rfl⟩
       go_wp2_with fail
       refine (P3.out _).mono ?_
       rintro e _ ⟨rfl, rfl⟩
       go_wp2_with fail
       refine (P4.out _).mono ?_
       rintro e _ ⟨rfl, rfl⟩
       go_wp2_with fail
       go_region_with ((go_at_call 9; refine (P5.out _).mono ?_; rintro e _ ⟨rfl, rfl⟩))
       all_goals
         go_wp2_with fail
         refine bodyPost_ret (zCP (g := w.heap.size) (cs := [.int .i64 (1 + x1), .int .i64 (0), .int .i64 (x3 + x5)]) rfl _ _ _ (by rfl) ?_ Tryz.underlying63 rfl zBN) rfl ?_
         . intro j v hv
           match j, hv with
           | 0, hv => simp at hv; subst hv; simp [go_sem]
           | 1, hv => simp at hv; subst hv; simp [go_sem]
           | 2, hv => simp at hv; subst hv; simp [go_sem]
         . exact ⟨rfl, by go_grown⟩
     . have HV : Hid ((if x2 = 0 then x3 else 0) = x3) := by show _ = _; rw [if_pos q2]
       have HH : Hid ((if 0 < x4 then (if x2 = 0 then x3 else 0) + x5 else -1) = x3 + x5) := by show _ = _; rw [if_pos q4, HV.out]
       have HL : Hid ((if 1 + x1 = 3 ∨ 1 + x1 = 4 ∨ 1 + x1 = 13 then 0 else (if x2 = 0 then x3 else 0)) = x3) := by show _ = _; rw [if_neg (by omega), HV.out]
       rw [HL.out, HH.out]
       have d2 : (x2 == 0) = true := by simpa using q2
       have d4 : decide (0 < x4) = true := by simp; omega
       have e3 : ((1 + x1 : Int) == 3) = false := by simp; omega
       have e4 : ((1 + x1 : Int) == 4) = false := by simp; omega
       have e13 : ((1 + x1 : Int) == 13) = false := by simp; omega
       clear q2 q3 b1 b2 b3 b4 b5
       go_enter Tryz.func40, Tryz.ntmps40
       go_wp2_with fail
       refine (P1.out _).mono ?_
       rintro e _ ⟨rfl, rfl⟩
       go_wp2_with fail
       refine (P2.out _).mono ?_
       rintro e _ ⟨rfl, rfl⟩
       go_wp2_with fail
       refine (P3.out _).mono ?_
       rintro e _ ⟨rfl, rfl⟩
       go_wp2_with fail
       refine (P4.out _).mono ?_
       rintro e _ ⟨rfl, rfl⟩
       go_wp2_with fail
       go_region_with ((go_at_call 9; refine (P5.out _).mono ?_; rintro e _ ⟨rfl, rfl⟩))
       all_goals
         go_wp2_with fail
         refine bodyPost_ret (zCP (g := w.heap.size) (cs := [.int .i64 (1 + x1), .int .i64 (x3), .int .i64 (x3 + x5)]) rfl _ _ _ (by rfl) ?_ Tryz.underlying63 rfl zBN) rfl ?_
         . intro j v hv
           match j, hv with
           | 0, hv => simp at hv; subst hv; simp [go_sem]
           | 1, hv => simp at hv; subst hv; simp [go_sem]
           | 2, hv => simp at hv; subst hv; simp [go_sem]
         . exact ⟨rfl, by go_grown⟩
   . rcases (by omega : 1 + x1 = 3 ∨ 1 + x1 = 4 ∨ 1 + x1 = 13 ∨ (1 + x1 ≠ 3 ∧ 1 + x1 ≠ 4 ∧ 1 + x1 ≠ 13)) with q3 | q3 | q3 | q3
     . have HV : Hid ((if x2 = 0 then x3 else 0) = x3) := by show _ = _; rw [if_pos q2]
       have HH : Hid ((if 0 < x4 then (if x2 = 0 then x3 else 0) + x5 else -1) = -1) := by show _ = _; rw [if_neg q4]
       have HL : Hid ((if 1 + x1 = 3 ∨ 1 + x1 = 4 ∨ 1 + x1 = 13 then 0 else (if x2 = 0 then x3 else 0)) = 0) := by show _ = _; rw [if_pos (by omega)]
       rw [HL.out, HH.out]
       have d2 : (x2 == 0) = true := by simpa using q2
       have d4 : decide (0 < x4) = false := by simp; omega
       have e3 : ((1 + x1 : Int) == 3) = true := by simp; omega
       have e4 : ((1 + x1 : Int) == 4) = false := by simp; omega
       have e13 : ((1 + x1 : Int) == 13) = false := by simp; omega
       clear q2 q3 b1 b2 b3 b4 b5
       go_enter Tryz.func40, Tryz.ntmps40
       go_wp2_with fail
       refine (P1.out _).mono ?_
       rintro e _ ⟨rfl, rfl⟩
       go_wp2_with fail
       refine (P2.out _).mono ?_
       rintro e _ ⟨rfl, rfl⟩
       go_wp2_with fail
       refine (P3.out _).mono ?_
       rintro e _ ⟨rfl, rfl⟩
       go_wp2_with fail
       refine (P4.out _).mono ?_
       rintro e _ ⟨rfl, rfl⟩
       go_wp2_with fail
       refine bodyPost_ret (zCP (g := w.heap.size) (cs := [.int .i64 (1 + x1), .int .i64 (0), .int .i64 (-1)]) rfl _ _ _ (by rfl) ?_ Tryz.underlying63 rfl zBN) rfl ?_
       . intro j v hv
         match j, hv with
         | 0, hv => simp at hv; subst hv; simp [go_sem]
         | 1, hv => simp at hv; subst hv; simp [go_sem]
         | 2, hv => simp at hv; subst hv; simp [go_sem]
       . exact ⟨rfl, by go_grown⟩
     . have HV : Hid ((if x2 = 0 then x3 else 0) = x3) := by show _ = _; rw [if_pos q2]
       have HH : Hid ((if 0 < x4 then (if x2 = 0 then x3 else 0) + x5 else -1) = -1) := by show _ = _; rw [if_neg q4]
       have HL : Hid ((if 1 + x1 = 3 ∨ 1 + x1 = 4 ∨ 1 + x1 = 13 then 0 else (if x2 = 0 then x3 else 0)) = 0) := by show _ = _; rw [if_pos (by omega)]
       rw [HL.out, HH.out]
       have d2 : (x2 == 0) = true := by simpa using q2
       have d4 : decide (0 < x4) = false := by simp; omega
       have e3 : ((1 + x1 : Int) == 3) = false := by simp; omega
       have e4 : ((1 + x1 : Int) == 4) = true := by simp; omega
       have e13 : ((1 + x1 : Int) == 13) = false := by simp; omega
       clear q2 q3 b1 b2 b3 b4 b5
       go_enter Tryz.func40, Tryz.ntmps40
       go_wp2_with fail
       refine (P1.out _).mono ?_
       rintro e _ ⟨rfl, rfl⟩
       go_wp2_with fail
       refine (P2.out _).mono ?_
       rintro e _ ⟨rfl, rfl⟩
       go_wp2_with fail
       refine (P3.out _).mono ?_
       rintro e _ ⟨rfl, rfl⟩
       go_wp2_with fail
       refine (P4.out _).mono ?_
       rintro e _ ⟨rfl, rfl⟩
       go_wp2_with fail
       refine bodyPost_ret (zCP (g := w.heap.size) (cs := [.int .i64 (1 + x1), .int .i64 (0), .int .i64 (-1)]) rfl _ _ _ (by rfl) ?_ Tryz.underlying63 rfl zBN) rfl ?_
       . intro j v hv
         match j, hv with
         | 0, hv => simp at hv; subst hv; simp [go_sem]
         | 1, hv => simp at hv; subst hv; simp [go_sem]
         | 2, hv => simp at hv; subst hv; simp [go_sem]
       . exact ⟨rfl, by go_grown⟩
     . have HV : Hid ((if x2 = 0 then x3 else 0) = x3) := by show _ = _; rw [if_pos q2]
       have HH : Hid ((if 0 < x4 then (if x2 = 0 then x3 else 0) + x5 else -1) = -1) := by show _ = _; rw [if_neg q4]
       have HL : Hid ((if 1 + x1 = 3 ∨ 1 + x1 = 4 ∨ 1 + x1 = 13 then 0 else (if x2 = 0 then x3 else 0)) = 0) := by show _ = _; rw [if_pos (by omega)]
       rw [HL.out, HH.out]
       have d2 : (x2 == 0) = true := by simpa using q2
       have d4 : decide (0 < x4) = false := by simp; omega
       have e3 : ((1 + x1 : Int) == 3) = false := by simp; omega
       have e4 : ((1 + x1 : Int) == 4) = false := by simp; omega
       have e13 : ((1 + x1 : Int) == 13) = true := by simp; omega
       clear q2 q3 b1 b2 b3 b4 b5
       go_enter Tryz.func40, Tryz.ntmps40
       go_wp2_with fail
       refine (P1.out _).mono ?_
       rintro e _ ⟨rfl, rfl⟩
       go_wp2_with fail
       refine (P2.out _).mono ?_
       rintro e _ ⟨rfl, rfl⟩
       go_wp2_with fail
       refine (P3.out _).mono ?_
       rintro e _ ⟨rfl, rfl⟩
       go_wp2_with fail
       refine (P4.out _).mono ?_
       rintro e _ ⟨rfl, rfl⟩
       go_wp2_with fail
       refine bodyPost_ret (zCP (g := w.heap.size) (cs := [.int .i64 (1 + x1), .int .i64 (0), .int .i64 (-1)]) rfl _ _ _ (by rfl) ?_ Tryz.underlying63 rfl zBN) rfl ?_
       . intro j v hv
         match j, hv with
         | 0, hv => simp at hv; subst hv; simp [go_sem]
         | 1, hv => simp at hv; subst hv; simp [go_sem]
         | 2, hv => simp at hv; subst hv; simp [go_sem]
       . exact ⟨rfl, by go_grown⟩
     . have HV : Hid ((if x2 = 0 then x3 else 0) = x3) := by show _ = _; rw [if_pos q2]
       have HH : Hid ((if 0 < x4 then (if x2 = 0 then x3 else 0) + x5 else -1) = -1) := by show _ = _; rw [if_neg q4]
       have HL : Hid ((if 1 + x1 = 3 ∨ 1 + x1 = 4 ∨ 1 + x1 = 13 then 0 else (if x2 = 0 then x3 else 0)) = x3) := by show _ = _; rw [if_neg (by omega), HV.out]
       rw [HL.out, HH.out]
       have d2 : (x2 == 0) = true := by simpa using q2
       have d4 : decide (0 < x4) = false := by simp; omega
       have e3 : ((1 + x1 : Int) == 3) = false := by simp; omega
       have e4 : ((1 + x1 : Int) == 4) = false := by simp; omega
       have e13 : ((1 + x1 : Int) == 13) = false := by simp; omega
       clear q2 q3 b1 b2 b3 b4 b5
       go_enter Tryz.func40, Tryz.ntmps40
       go_wp2_with fail
       refine (P1.out _).mono ?_
       rintro e _ ⟨rfl, rfl⟩
       go_wp2_with fail
       refine (P2.out _).mono ?_
       rintro e _ ⟨rfl, rfl⟩
       go_wp2_with fail
       refine (P3.out _).mono ?_
       rintro e _ ⟨rfl, rfl⟩
       go_wp2_with fail
       refine (P4.out _).mono ?_
       rintro e _ ⟨rfl, rfl⟩
       go_wp2_with fail
       refine bodyPost_ret (zCP (g := w.heap.size) (cs := [.int .i64 (1 + x1), .int .i64 (x3), .int .i64 (-1)]) rfl _ _ _ (by rfl) ?_ Tryz.underlying63 rfl zBN) rfl ?_
       . intro j v hv
         match j, hv with
         | 0, hv => simp at hv; subst hv; simp [go_sem]
         | 1, hv => simp at hv; subst hv; simp [go_sem]
         | 2, hv => simp at hv; subst hv; simp [go_sem]
       . exact ⟨rfl, by go_grown⟩
 . by_cases q4 : 0 < x4
   . rcases (by omega : 1 + x1 = 3 ∨ 1 + x1 = 4 ∨ 1 + x1 = 13 ∨ (1 + x1 ≠ 3 ∧ 1 + x1 ≠ 4 ∧ 1 + x1 ≠ 13)) with q3 | q3 | q3 | q3
     . have HV : Hid ((if x2 = 0 then x3 else 0) = 0) := by show _ = _; rw [if_neg q2]
       have HH : Hid ((if 0 < x4 then (if x2 = 0 then x3 else 0) + x5 else -1) = 0 + x5) := by show _ = _; rw [if_pos q4, HV.out]
       have HL : Hid ((if 1 + x1 = 3 ∨ 1 + x1 = 4 ∨ 1 + x1 = 13 then 0 else (if x2 = 0 then x3 else 0)) = 0) := by show _ = _; rw [if_pos (by omega)]
       rw [HL.out, HH.out]
       have d2 : (x2 == 0) = false := by simpa using q2
       have d4 : decide (0 < x4) = true := by simp; omega
       have e3 : ((1 + x1 : Int) == 3) = true := by simp; omega
       have e4 : ((1 + x1 : Int) == 4) = false := by simp; omega
       have e13 : ((1 + x1 : Int) == 13) = false := by simp; omega
       clear q2 q3 b1 b2 b3 b4 b5
       go_enter Tryz.func40, Tryz.ntmps40
       go_wp2_with fail
       refine (P1.out _).mono ?_
       rintro e _ ⟨rfl, rfl⟩
       go_wp2_with fail
       refine (P2.out _).mono ?_
       rintro e _ ⟨rfl, rfl⟩
       go_wp2_with fail
       refine (P4.out _).mono ?_
       rintro e _ ⟨rfl, rfl⟩
       go_wp2_with fail
       go_region_with ((go_at_call 9; refine (P5.out _).mono ?_; rintro e _ ⟨rfl, rfl⟩))
       all_goals
         go_wp2_with fail
         refine bodyPost_ret (zCP (g := w.heap.size) (cs := [.int .i64 (1 + x1), .int .i64 (0), .int .i64 (0 + x5)]) rfl _ _ _ (by rfl) ?_ Tryz.underlying63 rfl zBN) rfl ?_
         . intro j v hv
           match j, hv with
           | 0, hv => simp at hv; subst hv; simp [go_sem]
           | 1, hv => simp at hv; subst hv; simp [go_sem]
           | 2, hv => simp at hv; subst hv; simp [go_sem]
         . exact ⟨rfl, by go_grown⟩
     . have HV : Hid ((if x2 = 0 then x3 else 0) = 0) := by show _ = _; rw [if_neg q2]
       have HH : Hid ((if 0 < x4 then (if x2 = 0 then x3 else 0) + x5 else -1) = 0 + x5) := by show _ = _; rw [if_pos q4, HV.out]
       have HL : Hid ((if 1 + x1 = 3 ∨ 1 + x1 = 4 ∨ 1 + x1 = 13 then 0 else (if x2 = 0 then x3 else 0)) = 0) := by show _ = _; rw [if_pos (by omega)]
       rw [HL.out, HH.out]
       have d2 : (x2 == 0) = false := by simpa using q2
       have d4 : decide (0 < x4) = true := by simp; omega
       have e3 : ((1 + x1 : Int) == 3) = false := by simp; omega
       have e4 : ((1 + x1 : Int) == 4) = true := by simp; omega
       have e13 : ((1 + x1 : Int) == 13) = false := by simp; omega
       clear q2 q3 b1 b2 b3 b4 b5
       go_enter Tryz.func40, Tryz.ntmps40
       go_wp2_with fail
       refine (P1.out _).mono ?_
       rintro e _ ⟨rfl, rfl⟩
       go_wp2_with fail
       refine (P2.out _).mono ?_
       rintro e _ ⟨rfl, rfl⟩
       go_wp2_with fail
       refine (P4.out _).mono ?_
       rintro e _ ⟨rfl, rfl⟩
       go_wp2_with fail
       go_region_with ((go_at_call 9; refine (P5.out _).mono ?_; rintro e _ ⟨rfl, rfl⟩))
       all_goals
         go_wp2_with fail
         refine bodyPost_ret (zCP (g := w.heap.size) (cs := [.int .i64 (1 + x1), .int .i64 (0), .int .i64 (0 + x5)]) rfl _ _ _ (by rfl) ?_ Tryz.underlying63 rfl zBN) rfl ?_
         . intro j v hv
           match j, hv with
           | 0, hv => simp at hv; subst hv; simp [go_sem]
           | 1, hv => simp at hv; subst hv; simp [go_sem]
           | 2, hv => simp at hv; subst hv; simp [go_sem]
         . exact ⟨rfl, by go_grown⟩
     . have HV : Hid ((if x2 = 0 then x3 else 0) = 0) := by show _ = _; rw [if_neg q2]
       have HH : Hid ((if 0 < x4 then (if x2 = 0 then x3 else 0) + x5 else -1) = 0 + x5) := by show _ = _; rw [if_pos q4, HV.out]
       have HL : Hid ((if 1 + x1 = 3 ∨ 1 + x1 = 4 ∨ 1 + x1 = 13 then 0 else (if x2 = 0 then x3 else 0)) = 0) := by show _ = _; rw [if_pos (by omega)]
       rw [HL.out, HH.out]
       have d2 : (x2 == 0) = false := by simpa using q2
       have d4 : decide (0 < x4) = true := by simp; omega
       have e3 : ((1 + x1 : Int) == 3) = false := by simp; omega
       have e4 : ((1 + x1 : Int) == 4) = false := by simp; omega
       have e13 : ((1 + x1 : Int) == 13) = true := by simp; omega
       clear q2 q3 b1 b2 b3 b4 b5
       go_enter Tryz.func40, Tryz.ntmps40
       go_wp2_with fail
       refine (P1.out _).mono ?_
       rintro e _ ⟨rfl, rfl⟩
       go_wp2_with fail
       refine (P2.out _).mono ?_
       rintro e _ ⟨rfl, rfl⟩
       go_wp2_with fail
       refine (P4.out _).mono ?_
       rintro e _ ⟨rfl, rfl⟩
       go_wp2_with fail
       go_region_with ((go_at_call 9; refine (P5.out _).mono ?_; rintro e _ ⟨rfl, rfl⟩))
       all_goals
         go_wp2_with fail
         refine bodyPost_ret (zCP (g := w.heap.size) (cs := [.int .i64 (1 + x1), .int .i64 (0), .int .i64 (0 + x5)]) rfl _ _ _ (by rfl) ?_ Tryz.underlying63 rfl zBN) rfl ?_
         . intro j v hv
           match j, hv with
           | 0, hv => simp at hv; subst hv; simp [go_sem]
           | 1, hv => simp at hv; subst hv; simp [go_sem]
           | 2, hv => simp at hv; subst hv; simp [go_sem]
         . exact ⟨rfl, by go_grown⟩
     . have HV : Hid ((if x2 = 0 then x3 else 0) = 0) := by show _ = _; rw [if_neg q2]
       have HH : Hid ((if 0 < x4 then (if x2 = 0 then x3 else 0) + x5 else -1) = 0 + x5) := by show _ = _; rw [if_pos q4, HV.out]
       have HL : Hid ((if 1 + x1 = 3 ∨ 1 + x1 = 4 ∨ 1 + x1 = 13 then 0 else (if x2 = 0 then x3 else 0)) = 0) := by show _ = _; rw [if_neg (by omega), HV.out]
       rw [HL.out, HH.out]
       have d2 : (x2 == 0) = false := by simpa using q2
       have d4 : decide (0 < x4) = true := by simp; omega
       have e3 : ((1 + x1 : Int) == 3) = false := by simp; omega
       have e4 : ((1 + x1 : Int) == 4) = false := by simp; omega
       have e13 : ((1 + x1 : Int) == 13) = false := by simp; omega
       clear q2 q3 b1 b2 b3 b4 b5
       go_enter Tryz.func40, Tryz.ntmps40
       go_wp2_with fail
       refine (P1.out _).mono ?_
       rintro e _ ⟨rfl, rfl⟩
       go_wp2_with fail
       refine (P2.out _).mono ?_
       rintro e _ ⟨rfl, rfl⟩
       go_wp2_with fail
       refine (P4.out _).mono ?_
       rintro e _ ⟨rfl, rfl⟩
       go_wp2_with fail
       go_region_with ((go_at_call 9; refine (P5.out _).mono ?_; rintro e _ ⟨rfl, rfl⟩))
       all_goals
         go_wp2_with fail
         refine bodyPost_ret (zCP (g := w.heap.size) (cs := [.int .i64 (1 + x1), .int .i64 (0), .int .i64 (0 + x5)]) rfl _ _ _ (by rfl) ?_ Tryz.underlying63 rfl zBN) rfl ?_
         . intro j v hv
           match j, hv with
           | 0, hv => simp at hv; subst hv; simp [go_sem]
           | 1, hv => simp at hv; subst hv; simp [go_sem]
           | 2, hv => simp at hv; subst hv; simp [go_sem]
         . exact ⟨rfl, by go_grown⟩
   . rcases (by omega : 1 + x1 = 3 ∨ 1 + x1 = 4 ∨ 1 + x1 = 13 ∨ (1 + x1 ≠ 3 ∧ 1 + x1 ≠ 4 ∧ 1 + x1 ≠ 13)) with q3 | q3 | q3 | q3
     . have HV : Hid ((if x2 = 0 then x3 else 0) = 0) := by show _ = _; rw [if_neg q2]
       have HH : Hid ((if 0 < x4 then (if x2 = 0 then x3 else 0) + x5 else -1) = -1) := by show _ = _; rw [if_neg q4]
       have HL : Hid ((if 1 + x1 = 3 ∨ 1 + x1 = 4 ∨ 1 + x1 = 13 then 0 else (if x2 = 0 then x3 else 0)) = 0) := by show _ = _; rw [if_pos (by omega)]
       rw [HL.out, HH.out]
       have d2 : (x2 == 0) = false := by simpa using q2
       have d4 : decide (0 < x4) = false := by simp; omega
       have e3 : ((1 + x1 : Int) == 3) = true := by simp; omega
       have e4 : ((1 + x1 : Int) == 4) = false := by simp; omega
       have e13 : ((1 + x1 : Int) == 13) = false := by simp; omega
       clear q2 q3 b1 b2 b3 b4 b5
       go_enter Tryz.func40, Tryz.ntmps40
       go_wp2_with fail
       refine (P1.out _).mono ?_
       rintro e _ ⟨rfl, rfl⟩
       go_wp2_with fail
       refine (P2.out _).mono ?_
       rintro e _ ⟨rfl, rfl⟩
       go_wp2_with fail
       refine (P4.out _).mono ?_
       rintro e _ ⟨rfl, rfl⟩
       go_wp2_with fail
       refine bodyPost_ret (zCP (g := w.heap.size) (cs := [.int .i64 (1 + x1), .int .i64 (0), .int .i64 (-1)]) rfl _ _ _ (by rfl) ?_ Tryz.underlying63 rfl zBN) rfl ?_
       . intro j v hv
         match j, hv with
         | 0, hv => simp at hv; subst hv; simp [go_sem]
         | 1, hv => simp at hv; subst hv; simp [go_sem]
         | 2, hv => simp at hv; subst hv; simp [go_sem]
       . exact ⟨rfl, by go_grown⟩
     . have HV : Hid ((if x2 = 0 then x3 else 0) = 0) := by show _ = _; rw [if_neg q2]
       have HH : Hid ((if 0 < x4 then (if x2 = 0 then x3 else 0) + x5 else -1) = -1) := by show _ = _; rw [if_neg q4]
       have HL : Hid ((if 1 + x1 = 3 ∨ 1 + x1 = 4 ∨ 1 + x1 = 13 then 0 else (if x2 = 0 then x3 else 0)) = 0) := by show _ = _; rw [if_pos (by omega)]
       rw [HL.out, HH.out]
       have d2 : (x2 == 0) = false := by simpa using q2
       have d4 : decide (0 < x4) = false := by simp; omega
       have e3 : ((1 + x1 : Int) == 3) = false := by simp; omega
       have e4 : ((1 + x1 : Int) == 4) = true := by simp; omega
       have e13 : ((1 + x1 : Int) == 13) = false := by simp; omega
       clear q2 q3 b1 b2 b3 b4 b5
       go_enter Tryz.func40, Tryz.ntmps40
       go_wp2_with fail
       refine (P1.out _).mono ?_
       rintro e _ ⟨rfl, rfl⟩
       go_wp2_with fail
       refine (P2.out _).mono ?_
       rintro e _ ⟨rfl, rfl⟩
       go_wp2_with fail
       refine (P4.out _).mono ?_
       rintro e _ ⟨rfl, rfl⟩
       go_wp2_with fail
       refine bodyPost_ret (zCP (g := w.heap.size) (cs := [.int .i64 (1 + x1), .int .i64 (0), .int .i64 (-1)]) rfl _ _ _ (by rfl) ?_ Tryz.underlying63 rfl zBN) rfl ?_
       . intro j v hv
         match j, hv with
         | 0, hv => simp at hv; subst hv; simp [go_sem]
         | 1, hv => simp at hv; subst hv; simp [go_sem]
         | 2, hv => simp at hv; subst hv; simp [go_sem]
       . exact ⟨rfl, by go_grown⟩
     . have HV : Hid ((if x2 = 0 then x3 else 0) = 0) := by show _ = _; rw [if_neg q2]
       have HH : Hid ((if 0 < x4 then (if x2 = 0 then x3 else 0) + x5 else -1) = -1) := by show _ = _; rw [if_neg q4]
       have HL : Hid ((if 1 + x1 = 3 ∨ 1 + x1 = 4 ∨ 1 + x1 = 13 then 0 else (if x2 = 0 then x3 else 0)) = 0) := by show _ = _; rw [if_pos (by omega)]
       rw [HL.out, HH.out]
       have d2 : (x2 == 0) = false := by simpa using q2
       have d4 : decide (0 < x4) = false := by simp; omega
       have e3 : ((1 + x1 : Int) == 3) = false := by simp; omega
       have e4 : ((1 + x1 : Int) == 4) = false := by simp; omega
       have e13 : ((1 + x1 : Int) == 13) = true := by simp; omega
       clear q2 q3 b1 b2 b3 b4 b5
       go_enter Tryz.func40, Tryz.ntmps40
       go_wp2_with fail
       refine (P1.out _).mono ?_
       rintro e _ ⟨rfl, rfl⟩
       go_wp2_with fail
       refine (P2.out _).mono ?_
       rintro e _ ⟨rfl, rfl⟩
       go_wp2_with fail
       refine (P4.out _).mono ?_
       rintro e _ ⟨rfl, rfl⟩
       go_wp2_with fail
       refine bodyPost_ret (zCP (g := w.heap.size) (cs := [.int .i64 (1 + x1), .int .i64 (0), .int .i64 (-1)]) rfl _ _ _ (by rfl) ?_ Tryz.underlying63 rfl zBN) rfl ?_
       . intro j v hv
         match j, hv with
         | 0, hv => simp at hv; subst hv; simp [go_sem]
         | 1, hv => simp at hv; subst hv; simp [go_sem]
         | 2, hv => simp at hv; subst hv; simp [go_sem]
       . exact ⟨rfl, by go_grown⟩
     . have HV : Hid ((if x2 = 0 then x3 else 0) = 0) := by show _ = _; rw [if_neg q2]
       have HH : Hid ((if 0 < x4 then (if x2 = 0 then x3 else 0) + x5 else -1) = -1) := by show _ = _; rw [if_neg q4]
       have HL : Hid ((if 1 + x1 = 3 ∨ 1 + x1 = 4 ∨ 1 + x1 = 13 then 0 else (if x2 = 0 then x3 else 0)) = 0) := by show _ = _; rw [if_neg (by omega), HV.out]
       rw [HL.out, HH.out]
       have d2 : (x2 == 0) = false := by simpa using q2
       have d4 : decide (0 < x4) = false := by simp; omega
       have e3 : ((1 + x1 : Int) == 3) = false := by simp; omega
       have e4 : ((1 + x1 : Int) == 4) = false := by simp; omega
       have e13 : ((1 + x1 : Int) == 13) = false := by simp; omega
       clear q2 q3 b1 b2 b3 b4 b5
       go_enter Tryz.func40, Tryz.ntmps40
       go_wp2_with fail
       refine (P1.out _).mono ?_
       rintro e _ ⟨rfl, rfl⟩
       go_wp2_with fail
       refine (P2.out _).mono ?_
       rintro e _ ⟨rfl, rfl⟩
       go_wp2_with fail
       refine (P4.out _).mono ?_
       rintro e _ ⟨rfl, rfl⟩
       go_wp2_with fail
       refine bodyPost_ret (zCP (g := w.heap.size) (cs := [.int .i64 (1 + x1), .int .i64 (0), .int .i64 (-1)]) rfl _ _ _ (by rfl) ?_ Tryz.underlying63 rfl zBN) rfl ?_
       . intro j v hv
         match j, hv with
         | 0, hv => simp at hv; subst hv; simp [go_sem]
         | 1, hv => simp at hv; subst hv; simp [go_sem]
         | 2, hv => simp at hv; subst hv; simp [go_sem]
       . exact ⟨rfl, by go_grown⟩
end Go.Proofs.YtnlmknbhppdliaaGreatDoor.Chk
