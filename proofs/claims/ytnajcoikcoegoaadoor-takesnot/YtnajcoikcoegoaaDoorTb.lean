/-
  Parts of books of raw numbers. A many, by the program.
-/
import Derived.Test.YtnajcoikcoegoaaDoorRb
import Derived.Test.YtnajcoikcoegoaaDoorV4K
import Derived.Test.YtnajcoikcoegoaaDoorXb
import Derived.Test.YtnajcoikcoegoaaDoorDh
namespace Go.Proofs.YtnajcoikcoegoaaDoor.Chk
open Go.ChangeShapes Go.WideShapes Go.ChangeAt Go.RowKit Go.Maps
set_option linter.unusedVariables false
set_option linter.unusedSimpArgs false
set_option maxRecDepth 20000
theorem tm_bd (n m : Int) (hn : n < 0) (hm : 0 < m) : 0 ≤ -((n + 1).tmod m) ∧ -((n + 1).tmod m) < m := by
  have e : -((n + 1).tmod m) = (-(n + 1)).tmod m := (Int.neg_tmod _ _).symm
  rw [e]
  exact ⟨Int.tmod_nonneg _ (by omega), Int.tmod_lt_of_pos _ hm⟩
def pkd (n m : Int) : Int := if 0 ≤ n then n % m else -((n + 1).tmod m)
theorem pkd_in (n : Int) {m : Int} (hm : 0 < m) : 0 ≤ pkd n m ∧ pkd n m < m := by
  unfold pkd
  split
  · exact ⟨Int.emod_nonneg n (by omega), Int.emod_lt_of_pos n hm⟩
  · rename_i h
    exact tm_bd n m (by omega) hm
set_option maxHeartbeats 1000000 in
theorem picked_any (n m : Int) (w : World) (hn1 : -9223372036854775808 ≤ n) (hn2 : n ≤ 9223372036854775807) (hm : 0 < m) (hm2 : m ≤ 1099511627776) :
    Calls Tryd.prog 4 #[.int .i64 n, .int .i64 m] w fun e w' => e = .returned (.int .i64 (pkd n m)) ∧ w' = w := by
  have hm0 : ¬ m = 0 := by omega
  by_cases h : 0 ≤ n
  · have HP := hid (show pkd n m = n % m by unfold pkd; rw [if_pos h])
    go_enter Tryd.func4, Tryd.ntmps4
    go_wp2
    go_ret
    rw [HP.out]
    exact ⟨rfl, rfl⟩
  · have h' : n < 0 := by omega
    have HP := hid (show pkd n m = -((n + 1).tmod m) by unfold pkd; rw [if_neg h])
    go_enter Tryd.func4, Tryd.ntmps4
    go_wp2
    go_ret
    rw [HP.out]
    exact ⟨rfl, rfl⟩
/-- A row in a new block. -/
theorem rd_blk {W : World} {b : Nat} {cs : List Value} {U e : TypeId} {z : Nat} {l : List (List Dat)} (hb : W.heap[b]? = some (.cells cs.toArray U (0, 0))) (hl : 0 < l.length) (hm : l.length ≤ maxLen) (h : RdL W l.flatten cs) : Rd W (.row e z l) (.slice (some ⟨b, 0, none⟩) l.length l.length) :=
  Rd.row (w := W) e z l b 0 l.length cs hl (Nat.le_refl _) hm (fun j u hu => by rw [Nat.zero_add, cell_of_blk hb]; simpa using hu) h.1 h.2
section
variable {P : Program} {ops : Array Oper} {rest : List Oper} {o : Oper} {a : Act} {w : World} {Q : Exit → Act → World → Prop}
/-- A slice that is built: its block under a letter. -/
theorem wp_bsA (hgd : o.guard = none) (t : TypeId) (n : Nat) (parts : Array (Nat × Operand)) (ho : o.op = .buildSlice t n parts) (vals : Array (Nat × Value)) (hp : (parts.map fun x => (x.1, a.eval x.2)) = vals) (cs : List Value) (U : TypeId) (hv : ∀ w, (Instr.buildSlice t n vals).run P w = .ok (.slice (some ⟨w.heap.size, 0, none⟩) n n) (w.alloc (.cells cs.toArray U)))
    (h : ∀ b w', w'.heap[b]? = some (.cells cs.toArray U (0, 0)) → Below w.heap.size w w' → wpList P ops Q rest (a.put o.dst (.slice (some ⟨b, 0, none⟩) n n)) w') : wpList P ops Q (o :: rest) a w := by
  refine wpList_plain hgd fun K hK => ?_
  unfold Oper.wp execOp
  simp only [ho, Sem.run_bind, hp, hv, Result.andThen_ok, Sem.run_pure]
  exact hK _ _ (h _ _ (heap_alloc_new _ _) ((Below.refl _ _).alloc (Nat.le_refl _) _))
end
set_option maxHeartbeats 4000000 in
theorem own_any (nm : ByteArray) (w : World) : Calls Tryd.prog 10 #[.string nm] w fun e w' => e = .returned (opV (ownO nm)) ∧ Below w.heap.size w w' := by
  go_enter Tryd.func10, Tryd.ntmps10
  go_wp2_with (first
    | ((with_reducible show wpList _ _ _ (Oper.mk (some 4) _ _ _ _ _ :: _) _ _); refine wp_bdq (by rfl) 31 _ (by rfl) #[(0, .int .i64 2), (3, .string nm)] (by simp [Act.eval, Act.put]) (.agg #[.int .i64 2, .int .i64 0, .int .i64 0, .string ⟨#[]⟩, .string ⟨#[]⟩, .string nm]) (fun w => by kernel_rfl) ?_)
    | ((with_reducible show wpList _ _ _ (Oper.mk _ (.store _ _ _) _ _ _ _ :: _) _ _); refine wp_st (by rfl) 31 _ _ (by rfl) (w.heap.size) 0 [.int .i64 0, .int .i64 0, .int .i64 0, .string ⟨#[]⟩, .string ⟨#[]⟩, .string ⟨#[]⟩] 31 (.agg #[.int .i64 2, .int .i64 0, .int .i64 0, .string ⟨#[]⟩, .string ⟨#[]⟩, .string nm]) [.int .i64 2, .int .i64 0, .int .i64 0, .string ⟨#[]⟩, .string ⟨#[]⟩, .string nm] (by rfl) (by rfl) (by rfl) (heap_alloc_new _ _) (by simp) (by kernel_rfl) (by rfl) ?_; intro w2 hblk hfr; have HW2 := hid hblk; have HBE : Hid (Below w.heap.size w w2) := new_store hfr; clear hblk hfr))
  exact ret_loc w.heap.size [.int .i64 2, .int .i64 0, .int .i64 0, .string ⟨#[]⟩, .string ⟨#[]⟩, .string nm] 31 _ HW2.out rfl rfl (by rfl) Tryd.underlying31 rfl (by kernel_rfl) ⟨rfl, HBE.out⟩
set_option maxHeartbeats 4000000 in
theorem number_any (n : Int) (w : World) : Calls Tryd.prog 6 #[.int .i64 n] w fun e w' => e = .returned (opV (numO n)) ∧ Below w.heap.size w w' := by
  go_enter Tryd.func6, Tryd.ntmps6
  go_wp2_with (first
    | ((with_reducible show wpList _ _ _ (Oper.mk (some 4) _ _ _ _ _ :: _) _ _); refine wp_bdq (by rfl) 29 _ (by rfl) #[(0, .int .i64 1), (1, .int .i64 n)] (by simp [Act.eval, Act.put]) (.agg #[.int .i64 1, .int .i64 n, .string ⟨#[]⟩]) (fun w => by kernel_rfl) ?_)
    | ((with_reducible show wpList _ _ _ (Oper.mk (some 5) _ _ _ _ _ :: _) _ _); refine wp_bdq (by rfl) 31 _ (by rfl) #[(0, .int .i64 1), (1, .agg #[.int .i64 1, .int .i64 n, .string ⟨#[]⟩])] (by simp [Act.eval, Act.put]) (.agg #[.int .i64 1, .int .i64 1, .int .i64 n, .string ⟨#[]⟩, .string ⟨#[]⟩, .string ⟨#[]⟩]) (fun w => by kernel_rfl) ?_)
    | ((with_reducible show wpList _ _ _ (Oper.mk _ (.store _ _ _) _ _ _ _ :: _) _ _); refine wp_st (by rfl) 31 _ _ (by rfl) (w.heap.size) 0 [.int .i64 0, .int .i64 0, .int .i64 0, .string ⟨#[]⟩, .string ⟨#[]⟩, .string ⟨#[]⟩] 31 (.agg #[.int .i64 1, .int .i64 1, .int .i64 n, .string ⟨#[]⟩, .string ⟨#[]⟩, .string ⟨#[]⟩]) [.int .i64 1, .int .i64 1, .int .i64 n, .string ⟨#[]⟩, .string ⟨#[]⟩, .string ⟨#[]⟩] (by rfl) (by rfl) (by rfl) (heap_alloc_new _ _) (by simp) (by kernel_rfl) (by rfl) ?_; intro w2 hblk hfr; have HW2 := hid hblk; have HBE : Hid (Below w.heap.size w w2) := new_store hfr; clear hblk hfr))
  exact ret_loc w.heap.size [.int .i64 1, .int .i64 1, .int .i64 n, .string ⟨#[]⟩, .string ⟨#[]⟩, .string ⟨#[]⟩] 31 _ HW2.out rfl rfl (by rfl) Tryd.underlying31 rfl (by kernel_rfl) ⟨rfl, HBE.out⟩
set_option maxHeartbeats 8000000 in
theorem compare_any (k : Int) (a b : Opd) (w : World) : Calls Tryd.prog 11 #[.int .i64 k, opV a, opV b] w fun e w' => e = .returned (cnV k (.slice none 0 0) a b) ∧ Below w.heap.size w w' := by
  obtain ⟨ak, avk, avi, avt, ava, afd⟩ := a
  obtain ⟨bk, bvk, bvi, bvt, bva, bfd⟩ := b
  have hB := bxs3 w [.int .i64 ak, .int .i64 avk, .int .i64 avi, .string avt, .string ava, .string afd] [.int .i64 bk, .int .i64 bvk, .int .i64 bvi, .string bvt, .string bva, .string bfd] [.int .i64 0, .slice none 0 0, .int .i64 0, .int .i64 0, .int .i64 0, .string ⟨#[]⟩, .string ⟨#[]⟩, .string ⟨#[]⟩, .int .i64 0, .int .i64 0, .int .i64 0, .string ⟨#[]⟩, .string ⟨#[]⟩, .string ⟨#[]⟩] 31 31 33
  have X0 := hid (hB.r 0 (by simp))
  have X1 := hid (hB.r 1 (by simp))
  have HZ := hid (hB.b 2 (by simp))
  have HB := hid hB.bel
  clear hB
  go_enter Tryd.func11, Tryd.ntmps11
  go_wp2_with (first
    | ((with_reducible show wpList _ _ _ (Oper.mk (some 8) _ _ _ _ _ :: _) _ _); refine wpList_load_mid (by rfl) 31 _ (by rfl) w.heap.size 0 (by rfl) [.int .i64 ak, .int .i64 avk, .int .i64 avi, .string avt, .string ava, .string afd] _ X0.out Tryd.underlying31 rfl (by kernel_rfl) ?_)
    | ((with_reducible show wpList _ _ _ (Oper.mk (some 9) _ _ _ _ _ :: _) _ _); refine wpList_load_mid (by rfl) 31 _ (by rfl) (w.heap.size + 1) 0 (by rfl) [.int .i64 bk, .int .i64 bvk, .int .i64 bvi, .string bvt, .string bva, .string bfd] _ X1.out Tryd.underlying31 rfl (by kernel_rfl) ?_)
    | ((with_reducible show wpList _ _ _ (Oper.mk (some 10) _ _ _ _ _ :: _) _ _); refine wp_bdq (by rfl) 33 _ (by rfl) #[(0, .int .i64 k), (2, .agg #[.int .i64 ak, .int .i64 avk, .int .i64 avi, .string avt, .string ava, .string afd]), (3, .agg #[.int .i64 bk, .int .i64 bvk, .int .i64 bvi, .string bvt, .string bva, .string bfd])] (by simp [Act.eval, Act.put]) (.agg #[.int .i64 k, .slice none 0 0, .int .i64 ak, .int .i64 avk, .int .i64 avi, .string avt, .string ava, .string afd, .int .i64 bk, .int .i64 bvk, .int .i64 bvi, .string bvt, .string bva, .string bfd]) (fun w => by kernel_rfl) ?_)
    | ((with_reducible show wpList _ _ _ (Oper.mk _ (.store _ _ _) _ _ _ _ :: _) _ _); refine wp_st (by rfl) 33 _ _ (by rfl) (w.heap.size + 2) 0 _ 33 (.agg #[.int .i64 k, .slice none 0 0, .int .i64 ak, .int .i64 avk, .int .i64 avi, .string avt, .string ava, .string afd, .int .i64 bk, .int .i64 bvk, .int .i64 bvi, .string bvt, .string bva, .string bfd]) [.int .i64 k, .slice none 0 0, .int .i64 ak, .int .i64 avk, .int .i64 avi, .string avt, .string ava, .string afd, .int .i64 bk, .int .i64 bvk, .int .i64 bvi, .string bvt, .string bva, .string bfd] (by rfl) (by rfl) (by rfl) HZ.out (by simp) (by kernel_rfl) (by rfl) ?_; intro w2 hblk hfr; have HW2 := hid hblk; have HBE : Hid (Below w.heap.size w w2) := below_fr HB.out hfr (by omega); clear hblk hfr))
  exact ret_loc (w.heap.size + 2) [.int .i64 k, .slice none 0 0, .int .i64 ak, .int .i64 avk, .int .i64 avi, .string avt, .string ava, .string afd, .int .i64 bk, .int .i64 bvk, .int .i64 bvi, .string bvt, .string bva, .string bfd] 33 _ HW2.out rfl rfl (by rfl) Tryd.underlying33 rfl (by kernel_rfl) ⟨rfl, HBE.out⟩
theorem sv_cmp {w : World} (k : Int) (a b : Opd) : RdL w (encC (cmpC k a b)) (cnC k (.slice none 0 0) a b) := .cons (.lit _) (.cons (.nil _ _ none 0 (Nat.zero_le _)) (rdl_lits [.int .i64 a.k, .int .i64 a.vk, .int .i64 a.vi, .string a.vt, .string a.va, .string a.fd, .int .i64 b.k, .int .i64 b.vk, .int .i64 b.vi, .string b.vt, .string b.va, .string b.fd]))
/-- The types of all books, in five blocks one behind the other. -/
def Tys (W : World) (b : Nat) : Prop := W.heap[b]? = some (.cells #[.string ⟨#[110]⟩, .int .i64 1] 69 (0, 0)) ∧ W.heap[b + 1]? = some (.cells #[.string ⟨#[110]⟩, .int .i64 1, .string ⟨#[115]⟩, .int .i64 2] 69 (0, 0)) ∧ W.heap[b + 2]? = some (.cells #[.string ⟨#[110]⟩, .int .i64 1] 69 (0, 0)) ∧ W.heap[b + 3]? = some (.cells #[.string ⟨#[110]⟩, .int .i64 1] 69 (0, 0)) ∧ W.heap[b + 4]? = some (.cells #[.string ⟨#[97]⟩, .slice (some ⟨b, 0, none⟩) 1 1, .string ⟨#[98]⟩, .slice (some ⟨b + 1, 0, none⟩) 2 2, .string ⟨#[99]⟩, .slice none 0 0, .string ⟨#[100]⟩, .slice (some ⟨b + 2, 0, none⟩) 1 1, .string ⟨#[101]⟩, .slice (some ⟨b + 3, 0, none⟩) 1 1] 72 (0, 0))
theorem Tys.later {W W' : World} {b : Nat} (h : Tys W b) (hb : ∀ i o, W.heap[i]? = some o → b ≤ i → i < b + 5 → W'.heap[i]? = some o) : Tys W' b := ⟨hb _ _ h.1 (by omega) (by omega), hb _ _ h.2.1 (by omega) (by omega), hb _ _ h.2.2.1 (by omega) (by omega), hb _ _ h.2.2.2.1 (by omega) (by omega), hb _ _ h.2.2.2.2 (by omega) (by omega)⟩
theorem Tys.rd {W : World} {b : Nat} (h : Tys W b) : Rd W (.row 72 2 (kts.map encY)) (.slice (some ⟨b + 4, 0, none⟩) 5 5) := by
  obtain ⟨h0, h1, h2, h3, h4⟩ := h
  have r0 : Rd W (.row 69 2 (([⟨txt [110], 1⟩] : List Fd).map encF)) (.slice (some ⟨b, 0, none⟩) 1 1) := rd_blk (l := ([⟨txt [110], 1⟩] : List Fd).map encF) h0 (by decide) (by decide) (rdl_lits [.string (txt [110]), .int .i64 1])
  have r1 : Rd W (.row 69 2 (([⟨txt [110], 1⟩, ⟨txt [115], 2⟩] : List Fd).map encF)) (.slice (some ⟨b + 1, 0, none⟩) 2 2) := rd_blk (l := ([⟨txt [110], 1⟩, ⟨txt [115], 2⟩] : List Fd).map encF) h1 (by decide) (by decide) (rdl_lits [.string (txt [110]), .int .i64 1, .string (txt [115]), .int .i64 2])
  have r2 : Rd W (.row 69 2 (([⟨txt [110], 1⟩] : List Fd).map encF)) (.slice (some ⟨b + 2, 0, none⟩) 1 1) := rd_blk (l := ([⟨txt [110], 1⟩] : List Fd).map encF) h2 (by decide) (by decide) (rdl_lits [.string (txt [110]), .int .i64 1])
  have r3 : Rd W (.row 69 2 (([⟨txt [110], 1⟩] : List Fd).map encF)) (.slice (some ⟨b + 3, 0, none⟩) 1 1) := rd_blk (l := ([⟨txt [110], 1⟩] : List Fd).map encF) h3 (by decide) (by decide) (rdl_lits [.string (txt [110]), .int .i64 1])
  have rc : Rd W (.row 69 2 (([] : List Fd).map encF)) (.slice none 0 0) := .nil _ _ none 0 (Nat.zero_le _)
  exact rd_blk (l := kts.map encY) h4 (by decide) (by decide) (.cons (.lit _) (.cons r0 (.cons (.lit _) (.cons r1 (.cons (.lit _) (.cons rc (.cons (.lit _) (.cons r2 (.cons (.lit _) (.cons r3 (RdL.nil _)))))))))))
set_option maxHeartbeats 16000000 in
theorem types_any (w : World) : Calls Tryd.prog 8 #[] w fun e w' => ∃ b, e = .returned (.slice (some ⟨b + 4, 0, none⟩) 5 5) ∧ w.heap.size ≤ b ∧ Tys w' b ∧ Below w.heap.size w w' := by
  have hB := (bxs4 w [.string ⟨#[110]⟩, .int .i64 1] [.string ⟨#[110]⟩, .int .i64 1, .string ⟨#[115]⟩, .int .i64 2] [.string ⟨#[110]⟩, .int .i64 1] [.string ⟨#[110]⟩, .int .i64 1] 69 69 69 69).snoc (by simp) [.string ⟨#[97]⟩, .slice (some ⟨w.heap.size, 0, none⟩) 1 1, .string ⟨#[98]⟩, .slice (some ⟨w.heap.size + 1, 0, none⟩) 2 2, .string ⟨#[99]⟩, .slice none 0 0, .string ⟨#[100]⟩, .slice (some ⟨w.heap.size + 1 + 1, 0, none⟩) 1 1, .string ⟨#[101]⟩, .slice (some ⟨w.heap.size + 1 + 1 + 1, 0, none⟩) 1 1] 72
  have HT := hid (show Tys _ w.heap.size from ⟨hB.b 0 (by simp), hB.b 1 (by simp), hB.b 2 (by simp), hB.b 3 (by simp), hB.b 4 (by simp)⟩)
  have HB := hid hB.bel
  clear hB
  go_enter Tryd.func8, Tryd.ntmps8
  go_wp2_with fail
  go_ret
  exact ⟨w.heap.size, rfl, Nat.le_refl _, HT.out, HB.out⟩
theorem step_call_clo {ops : Array Oper} {o : Oper} {a : Act} {w : World} {K : Act → World → Prop} {Q : Exit → Act → World → Prop} {E : Prop} (f : FuncId) (he : ∀ args w, (callFunc f args).run Tryd.prog w = .ok (.enter f args) w) (hw : Region.wanted o (yielded ops a.tmps) = true) (x0 x1 : Operand) (ts : Array TypeId) (ho : o.op = .call { callee := .value x0, args := #[x1], argTypes := ts }) (c u1 : Value) (h0 : a.eval x0 = .func (.func f) #[] #[c]) (h1 : a.eval x1 = u1)
    (R : Ending → World → Prop) (hc : Calls Tryd.prog f #[u1, c] w R) (h : ∀ e w', R e w' → ∃ v, e = .returned v ∧ K (a.put o.dst v) w') :
    if Region.wanted o (yielded ops a.tmps) = true then Oper.wp Tryd.prog o a w K Q else E := by
  rw [if_pos hw]
  unfold Oper.wp execOp
  simp [ho, resolve, invoke, Deferred.ofValue, h0, h1, he]
  refine hc.mono ?_
  intro e w' hr
  obtain ⟨v, rfl, hk⟩ := h e w' hr
  exact hk
theorem ent_find : ∀ args w, (callFunc 57 args).run Tryd.prog w = .ok (.enter 57 args) w := enters_of Tryd.func57 (by kernel_rfl) rfl
theorem ent_fk : ∀ args w, (callFunc 71 args).run Tryd.prog w = .ok (.enter 71 args) w := enters_of Tryd.func71 (by kernel_rfl) rfl
theorem sck_eq (fs : List Fd) (nm : ByteArray) : sck fs nm = if (fck fs nm).2 = 0 ∧ (fck fs nm).1 ≠ 1 then 13 else (fck fs nm).2 := by
  unfold sck
  have h : (fck fs nm).2 = 0 ∨ (fck fs nm).2 = 6 := by
    unfold fck
    split
    · exact .inr rfl
    · exact .inl rfl
  rcases h with h | h
  · rw [h, if_neg (by decide)]
    by_cases c : (fck fs nm).1 = 1
    · rw [if_pos c, if_neg (by omega)]
    · rw [if_neg c, if_pos ⟨rfl, c⟩]
  · rw [h, if_pos (by decide), if_neg (by omega)]
set_option maxHeartbeats 64000000 in
theorem many_any (ts : List Tp) (ws : List Pt) (ah : List ByteArray) (b mb : Nat) (Ks : Kns) (n : Nat) (hkn : Known ts ws) (hk : Knw ts ws Ks) (hka : Kna ah Ks) (hty : ∀ i (hi : i < ts.length), tyk ts[i].n ts[i].f = 0) (x : Mn) (tv sv : Value) (w : World) (hs : Scp w ts tv b mb Ks n) (hS : Rd w (.row 33 14 x.p.c.sb) sv) (hwz : Wsz x.p.c) (hn : n ≤ 100) :
    Calls Tryd.prog 53 #[scV tv b mb, .agg (.int .i64 x.c :: .string x.f :: ptC x.p.va x.p.ty x.p.c.k sv x.p.c.l x.p.c.r x.p.w x.p.n).toArray] w (PQ w mb (Ks ++ [(x.p.va, (3, tyq ts x.p.ty))]) (n + 1) (mck ts ws ah x)) := by
  have HP := hid (fun (wv : Value) W (hW : Below w.heap.size w W) (hI : Ints W wv [1]) => pattern_any ts ws ah b mb Ks n hkn hk hka hty x.p 3 [1] (.inr (.inr ⟨rfl, rfl⟩)) tv sv wv W (hs.later hW) (hS.later hW) hwz hI hn)
  have HS := hid hs
  have HTYK := hid hty
  obtain ⟨p, m, cap, rfl⟩ := rd_shape hS
  obtain ⟨tp, tn, tc, rfl⟩ := rd_shape hs.rt
  obtain ⟨mc, mf, ⟨va, ty, ⟨ck, csb, l, r⟩, pw, pn⟩⟩ := x
  simp only at HP ⊢
  have HT : Hid (Blk2 w ((w.alloc (.cells [.slice tp tn tc, .func (.func 57) #[] #[.pointer (some ⟨b, 0, none⟩)], .map (some mb)].toArray 118)).alloc (.cells [.int .i64 mc, .string mf, .string va, .string ty, .int .i64 ck, .slice p m cap, .int .i64 l.k, .int .i64 l.vk, .int .i64 l.vi, .string l.vt, .string l.va, .string l.fd, .int .i64 r.k, .int .i64 r.vk, .int .i64 r.vi, .string r.vt, .string r.va, .string r.fd, .int .i64 pw, .int .i64 pn].toArray 87)) [.slice tp tn tc, .func (.func 57) #[] #[.pointer (some ⟨b, 0, none⟩)], .map (some mb)] [.int .i64 mc, .string mf, .string va, .string ty, .int .i64 ck, .slice p m cap, .int .i64 l.k, .int .i64 l.vk, .int .i64 l.vi, .string l.vt, .string l.va, .string l.fd, .int .i64 r.k, .int .i64 r.vk, .int .i64 r.vi, .string r.vt, .string r.va, .string r.fd, .int .i64 pw, .int .i64 pn] 118 87) := Blk2.start w _ _ _ _
  have HMP : Hid (∃ es c, (((w.alloc (.cells [.slice tp tn tc, .func (.func 57) #[] #[.pointer (some ⟨b, 0, none⟩)], .map (some mb)].toArray 118)).alloc (.cells [.int .i64 mc, .string mf, .string va, .string ty, .int .i64 ck, .slice p m cap, .int .i64 l.k, .int .i64 l.vk, .int .i64 l.vi, .string l.vt, .string l.va, .string l.fd, .int .i64 r.k, .int .i64 r.vk, .int .i64 r.vi, .string r.vt, .string r.va, .string r.fd, .int .i64 pw, .int .i64 pn].toArray 87)).alloc (.cells #[.int .i64 1] 3)).heap[mb]? = some (.map es c)) := ((hs.km.later HT.out.bel).later ((Below.refl _ _).alloc (Nat.le_refl _) _)).isMap
  have XP : Hid (((w.alloc (.cells [.slice tp tn tc, .func (.func 57) #[] #[.pointer (some ⟨b, 0, none⟩)], .map (some mb)].toArray 118)).alloc (.cells [.int .i64 mc, .string mf, .string va, .string ty, .int .i64 ck, .slice p m cap, .int .i64 l.k, .int .i64 l.vk, .int .i64 l.vi, .string l.vt, .string l.va, .string l.fd, .int .i64 r.k, .int .i64 r.vk, .int .i64 r.vi, .string r.vt, .string r.va, .string r.fd, .int .i64 pw, .int .i64 pn].toArray 87)).rangeAt (w.heap.size + 1) 2 (ptC va ty ck (.slice p m cap) l r pw pn)) := range_tail HT.out.b2 rfl
  obtain ⟨E, hE⟩ : ∃ E, mck ts ws ah ⟨mc, mf, ⟨va, ty, ⟨ck, csb, l, r⟩, pw, pn⟩⟩ = E := ⟨_, rfl⟩
  rw [hE]
  have HE := hid hE
  obtain ⟨e9, he9⟩ : ∃ e9, pck ts ws ah ⟨va, ty, ⟨ck, csb, l, r⟩, pw, pn⟩ 2 = e9 := ⟨_, rfl⟩
  have HE9 := hid he9
  rw [show ((3 : Int) - 1) = 2 from rfl, he9] at HP
  clear hE he9 hS hs hwz hkn hk hka hty
  cases hem : emp mf with
  | true =>
    have q0 : mf.toList = [] := emp_t hem
    by_cases hr : 1 ≤ mc ∧ mc ≤ 120
    · obtain ⟨g1, g2⟩ := hr
      have g3 : ¬ mc < 1 := by omega
      have g4 : ¬ 120 < mc := by omega
      have HBD : Hid (mbad ⟨mc, mf, ⟨va, ty, ⟨ck, csb, l, r⟩, pw, pn⟩⟩ = false) := by show _ = _; unfold mbad; simp only; rw [hem]; simp; omega
      have HM1 : Hid (e9 = 0 → mck ts ws ah ⟨mc, mf, ⟨va, ty, ⟨ck, csb, l, r⟩, pw, pn⟩⟩ = 0) := fun h => by rw [mck_ok HBD.out (HE9.out.trans h)]; simp only; rw [if_pos hem]
      have HM3 : Hid (e9 ≠ 0 → mck ts ws ah ⟨mc, mf, ⟨va, ty, ⟨ck, csb, l, r⟩, pw, pn⟩⟩ = e9) := fun h => by rw [mck_pat HBD.out (by show pck _ _ _ _ _ ≠ 0; rw [HE9.out]; exact h)]; exact HE9.out
      clear hem
      go_enter Tryd.func53, Tryd.ntmps53
      go_wp2_with ((with_reducible show wpList _ _ _ (Oper.mk _ (.load _ _) _ _ _ _ :: _) _ _); refine wpList_load_mid (by rfl) 47 _ (by rfl) (w.heap.size + 1) 2 (by rfl) (ptC va ty ck (.slice p m cap) l r pw pn) _ XP.out Tryd.underlying47 rfl (by kernel_rfl) ?_)
      have hB : Below w.heap.size w (((w.alloc (.cells [.slice tp tn tc, .func (.func 57) #[] #[.pointer (some ⟨b, 0, none⟩)], .map (some mb)].toArray 118)).alloc (.cells [.int .i64 mc, .string mf, .string va, .string ty, .int .i64 ck, .slice p m cap, .int .i64 l.k, .int .i64 l.vk, .int .i64 l.vi, .string l.vt, .string l.va, .string l.fd, .int .i64 r.k, .int .i64 r.vk, .int .i64 r.vi, .string r.vt, .string r.va, .string r.fd, .int .i64 pw, .int .i64 pn].toArray 87)).alloc (.cells #[.int .i64 1] 3)) := HT.out.bel.alloc HT.out.bel.size _
      have hI : Ints (((w.alloc (.cells [.slice tp tn tc, .func (.func 57) #[] #[.pointer (some ⟨b, 0, none⟩)], .map (some mb)].toArray 118)).alloc (.cells [.int .i64 mc, .string mf, .string va, .string ty, .int .i64 ck, .slice p m cap, .int .i64 l.k, .int .i64 l.vk, .int .i64 l.vi, .string l.vt, .string l.va, .string l.fd, .int .i64 r.k, .int .i64 r.vk, .int .i64 r.vi, .string r.vt, .string r.va, .string r.fd, .int .i64 pw, .int .i64 pn].toArray 87)).alloc (.cells #[.int .i64 1] 3)) (.slice (some ⟨w.heap.size + 1 + 1, 0, none⟩) 1 1) [1] := ⟨_, 1, rfl, Nat.le_refl _, by decide, fun k hk => by
        have hk' : k < 1 := hk
        have e9 : ((w.alloc (.cells [.slice tp tn tc, .func (.func 57) #[] #[.pointer (some ⟨b, 0, none⟩)], .map (some mb)].toArray 118)).alloc (.cells [.int .i64 mc, .string mf, .string va, .string ty, .int .i64 ck, .slice p m cap, .int .i64 l.k, .int .i64 l.vk, .int .i64 l.vi, .string l.vt, .string l.va, .string l.fd, .int .i64 r.k, .int .i64 r.vk, .int .i64 r.vi, .string r.vt, .string r.va, .string r.fd, .int .i64 pw, .int .i64 pn].toArray 87)).heap.size = w.heap.size + 1 + 1 := by simp
        rw [← e9, cell_of_blk (heap_alloc_new _ _)]
        obtain rfl : k = 0 := by omega
        rfl⟩
      have X := HP.out _ _ hB hI
      have HB := hid hB
      have HTB : Hid (Blk2 w (((w.alloc (.cells [.slice tp tn tc, .func (.func 57) #[] #[.pointer (some ⟨b, 0, none⟩)], .map (some mb)].toArray 118)).alloc (.cells [.int .i64 mc, .string mf, .string va, .string ty, .int .i64 ck, .slice p m cap, .int .i64 l.k, .int .i64 l.vk, .int .i64 l.vi, .string l.vt, .string l.va, .string l.fd, .int .i64 r.k, .int .i64 r.vk, .int .i64 r.vi, .string r.vt, .string r.va, .string r.fd, .int .i64 pw, .int .i64 pn].toArray 87)).alloc (.cells #[.int .i64 1] 3)) [.slice tp tn tc, .func (.func 57) #[] #[.pointer (some ⟨b, 0, none⟩)], .map (some mb)] [.int .i64 mc, .string mf, .string va, .string ty, .int .i64 ck, .slice p m cap, .int .i64 l.k, .int .i64 l.vk, .int .i64 l.vi, .string l.vt, .string l.va, .string l.fd, .int .i64 r.k, .int .i64 r.vk, .int .i64 r.vi, .string r.vt, .string r.va, .string r.fd, .int .i64 pw, .int .i64 pn] 118 87) := HT.out.alloc _
      clear hI hB
      refine X.mono ?_
      intro e w3 hr
      clear X
      by_cases h9 : e9 = 0
      · have hr2 := hr
        rw [h9] at hr2
        obtain ⟨rfl, hF, hK⟩ := hr2.pq HB.out
        have HF := hid hF
        have HK := hid (hK rfl)
        have hf3 := (hr2.2.2 rfl).1
        clear hF hK hr hr2
        have HR : Hid (E = 0) := by show _ = _; rw [← HE.out]; exact HM1.out h9
        have c1 : w3.cell? ⟨w.heap.size + 1, 1, none⟩ = some (.string mf) := cell_fr HMP.out hf3 (HTB.out.c2 1)
        clear hf3 h9
        go_wp2_with fail
        go_ret
        exact ⟨by rw [HR.out]; rfl, HF.out, fun _ => HK.out⟩
      · obtain ⟨rfl, hF, _⟩ := hr.pq HB.out
        have HF := hid hF
        have HR : Hid (E = e9) := by show _ = _; rw [← HE.out]; exact HM3.out h9
        have H9 := hid h9
        have d1 : (e9 != 0) = true := by simpa using h9
        clear hr h9 hF
        go_wp2_with fail
        go_ret
        exact ⟨by rw [HR.out]; rfl, HF.out, fun c => absurd (HR.out.symm.trans c) H9.out⟩
    · have HBD : Hid (mbad ⟨mc, mf, ⟨va, ty, ⟨ck, csb, l, r⟩, pw, pn⟩⟩ = true) := by show _ = _; unfold mbad; simp only; rw [hem]; simp; omega
      by_cases hlo : mc < 1
      · clear hr hem
        have HR : Hid (E = 2) := by show _ = _; rw [← HE.out]; exact mck_bad HBD.out
        go_enter Tryd.func53, Tryd.ntmps53
        go_wp2_with fail
        go_ret
        exact ⟨by rw [HR.out]; rfl, Fr.of_below HT.out.bel, fun c => by rw [HR.out] at c; cases c⟩
      · have g2 : 120 < mc := by omega
        clear hr hem
        have HR : Hid (E = 2) := by show _ = _; rw [← HE.out]; exact mck_bad HBD.out
        go_enter Tryd.func53, Tryd.ntmps53
        go_wp2_with fail
        go_ret
        exact ⟨by rw [HR.out]; rfl, Fr.of_below HT.out.bel, fun c => by rw [HR.out] at c; cases c⟩
  | false =>
    obtain ⟨q0, q1⟩ := emp_f hem
    by_cases hr : 0 ≤ mc ∧ mc ≤ 1125899906842624
    · obtain ⟨g1, g2⟩ := hr
      have g3 : ¬ mc < 0 := by omega
      have g4 : ¬ 1125899906842624 < mc := by omega
      have HBD : Hid (mbad ⟨mc, mf, ⟨va, ty, ⟨ck, csb, l, r⟩, pw, pn⟩⟩ = false) := by show _ = _; unfold mbad; simp only; rw [hem]; simp; omega
      have HM1 : Hid (∀ ix (hix : ix < ts.length), tyq ts ty = (ix : Int) → e9 = 0 → mck ts ws ah ⟨mc, mf, ⟨va, ty, ⟨ck, csb, l, r⟩, pw, pn⟩⟩ = sck ts[ix].f mf) := fun ix hix ht h => by rw [mck_ok HBD.out (HE9.out.trans h)]; simp only; rw [if_neg (by rw [hem]; decide), ht]; simp [hix]
      have HM3 : Hid (e9 ≠ 0 → mck ts ws ah ⟨mc, mf, ⟨va, ty, ⟨ck, csb, l, r⟩, pw, pn⟩⟩ = e9) := fun h => by rw [mck_pat HBD.out (by show pck _ _ _ _ _ ≠ 0; rw [HE9.out]; exact h)]; exact HE9.out
      clear hem
      go_enter Tryd.func53, Tryd.ntmps53
      go_wp2_with ((with_reducible show wpList _ _ _ (Oper.mk _ (.load _ _) _ _ _ _ :: _) _ _); refine wpList_load_mid (by rfl) 47 _ (by rfl) (w.heap.size + 1) 2 (by rfl) (ptC va ty ck (.slice p m cap) l r pw pn) _ XP.out Tryd.underlying47 rfl (by kernel_rfl) ?_)
      have hB : Below w.heap.size w (((w.alloc (.cells [.slice tp tn tc, .func (.func 57) #[] #[.pointer (some ⟨b, 0, none⟩)], .map (some mb)].toArray 118)).alloc (.cells [.int .i64 mc, .string mf, .string va, .string ty, .int .i64 ck, .slice p m cap, .int .i64 l.k, .int .i64 l.vk, .int .i64 l.vi, .string l.vt, .string l.va, .string l.fd, .int .i64 r.k, .int .i64 r.vk, .int .i64 r.vi, .string r.vt, .string r.va, .string r.fd, .int .i64 pw, .int .i64 pn].toArray 87)).alloc (.cells #[.int .i64 1] 3)) := HT.out.bel.alloc HT.out.bel.size _
      have hI : Ints (((w.alloc (.cells [.slice tp tn tc, .func (.func 57) #[] #[.pointer (some ⟨b, 0, none⟩)], .map (some mb)].toArray 118)).alloc (.cells [.int .i64 mc, .string mf, .string va, .string ty, .int .i64 ck, .slice p m cap, .int .i64 l.k, .int .i64 l.vk, .int .i64 l.vi, .string l.vt, .string l.va, .string l.fd, .int .i64 r.k, .int .i64 r.vk, .int .i64 r.vi, .string r.vt, .string r.va, .string r.fd, .int .i64 pw, .int .i64 pn].toArray 87)).alloc (.cells #[.int .i64 1] 3)) (.slice (some ⟨w.heap.size + 1 + 1, 0, none⟩) 1 1) [1] := ⟨_, 1, rfl, Nat.le_refl _, by decide, fun k hk => by
        have hk' : k < 1 := hk
        have e9 : ((w.alloc (.cells [.slice tp tn tc, .func (.func 57) #[] #[.pointer (some ⟨b, 0, none⟩)], .map (some mb)].toArray 118)).alloc (.cells [.int .i64 mc, .string mf, .string va, .string ty, .int .i64 ck, .slice p m cap, .int .i64 l.k, .int .i64 l.vk, .int .i64 l.vi, .string l.vt, .string l.va, .string l.fd, .int .i64 r.k, .int .i64 r.vk, .int .i64 r.vi, .string r.vt, .string r.va, .string r.fd, .int .i64 pw, .int .i64 pn].toArray 87)).heap.size = w.heap.size + 1 + 1 := by simp
        rw [← e9, cell_of_blk (heap_alloc_new _ _)]
        obtain rfl : k = 0 := by omega
        rfl⟩
      have X := HP.out _ _ hB hI
      have HB := hid hB
      have HTB : Hid (Blk2 w (((w.alloc (.cells [.slice tp tn tc, .func (.func 57) #[] #[.pointer (some ⟨b, 0, none⟩)], .map (some mb)].toArray 118)).alloc (.cells [.int .i64 mc, .string mf, .string va, .string ty, .int .i64 ck, .slice p m cap, .int .i64 l.k, .int .i64 l.vk, .int .i64 l.vi, .string l.vt, .string l.va, .string l.fd, .int .i64 r.k, .int .i64 r.vk, .int .i64 r.vi, .string r.vt, .string r.va, .string r.fd, .int .i64 pw, .int .i64 pn].toArray 87)).alloc (.cells #[.int .i64 1] 3)) [.slice tp tn tc, .func (.func 57) #[] #[.pointer (some ⟨b, 0, none⟩)], .map (some mb)] [.int .i64 mc, .string mf, .string va, .string ty, .int .i64 ck, .slice p m cap, .int .i64 l.k, .int .i64 l.vk, .int .i64 l.vi, .string l.vt, .string l.va, .string l.fd, .int .i64 r.k, .int .i64 r.vk, .int .i64 r.vi, .string r.vt, .string r.va, .string r.fd, .int .i64 pw, .int .i64 pn] 118 87) := HT.out.alloc _
      clear hI hB
      refine X.mono ?_
      intro e w3 hr
      clear X
      by_cases h9 : e9 = 0
      · have hr2 := hr
        rw [h9] at hr2
        obtain ⟨rfl, hF, hK⟩ := hr2.pq HB.out
        have HF := hid hF
        have HK := hid (hK rfl)
        have hf3 := (hr2.2.2 rfl).1
        clear hF hK hr hr2
        obtain ⟨ix, hix, hty2⟩ := pck_known (HE9.out.trans h9)
        obtain ⟨p', cap', e0, _, hat⟩ := rd_row lenY HS.out.rt
        have etn := (rd_caps HS.out.rt).1
        simp only [Value.slice.injEq] at e0
        obtain ⟨rfl, hx0, rfl⟩ := e0
        obtain ⟨gt, oft, rfl, hrd⟩ := hat (by omega)
        obtain ⟨T2, t1, t2⟩ := hrd (((w.alloc (.cells [.slice (some ⟨gt, oft, none⟩) tn tc, .func (.func 57) #[] #[.pointer (some ⟨b, 0, none⟩)], .map (some mb)].toArray 118)).alloc (.cells [.int .i64 mc, .string mf, .string va, .string ty, .int .i64 ck, .slice p m cap, .int .i64 l.k, .int .i64 l.vk, .int .i64 l.vi, .string l.vt, .string l.va, .string l.fd, .int .i64 r.k, .int .i64 r.vk, .int .i64 r.vi, .string r.vt, .string r.va, .string r.fd, .int .i64 pw, .int .i64 pn].toArray 87)).alloc (.cells #[.int .i64 1] 3)) HB.out ix hix
        obtain ⟨fv2, zt, o3⟩ := rdY t2
        have ZT : Hid ((Tryd.prog.info? 72).map (·.size) = some T2.length) := by show _ = _; rw [zt]; kernel_rfl
        have hs3 : Scp w3 ts (.slice (some ⟨gt, oft, none⟩) tn tc) b mb (Ks ++ [(va, (3, tyq ts ty))]) (n + 1) := (HS.out.later HB.out).fr hf3 HK.out
        have HFT : Hid (∀ W, Below w3.heap.size w3 W → Calls Tryd.prog 57 #[.string ty, .pointer (some ⟨b, 0, none⟩)] W fun e w' => e = .returned (.int .i64 (ix : Int)) ∧ Below W.heap.size W w') := fun W hW => by rw [← hty2]; exact find_any ts _ ty b W (hs3.later hW).rt (hs3.later hW).fd
        have o4 := Rd.fr HMP.out hf3 o3
        have HFK : Hid (∀ W, Below w3.heap.size w3 W → Calls Tryd.prog 71 #[.agg T2.toArray, .string mf] W fun e w' => e = .returned (.tuple #[.int .i64 (fck ts[ix].f mf).1, .int .i64 (fck ts[ix].f mf).2]) ∧ Below W.heap.size W w') := fun W hW => by rw [zt]; exact fieldKind_any _ _ fv2 mf W (o4.later hW) (HTYK.out ix hix)
        have HR : Hid (E = if (fck ts[ix].f mf).2 = 0 ∧ (fck ts[ix].f mf).1 ≠ 1 then 13 else (fck ts[ix].f mf).2) := by show _ = _; rw [← HE.out, HM1.out ix hix hty2 h9, sck_eq]
        obtain ⟨⟨f1, f2⟩, hf⟩ : ∃ x, fck ts[ix].f mf = x := ⟨_, rfl⟩
        rw [hf] at HFK HR
        have HK0' : w3.cell? ⟨w.heap.size, 0, none⟩ = some (.slice (some ⟨gt, oft, none⟩) tn tc) ∧ w3.cell? ⟨w.heap.size, 1, none⟩ = some (.func (.func 57) #[] #[.pointer (some ⟨b, 0, none⟩)]) ∧ w3.cell? ⟨w.heap.size + 1, 3, none⟩ = some (.string ty) ∧ w3.cell? ⟨w.heap.size + 1, 1, none⟩ = some (.string mf) ∧ w3.rangeAt gt (oft + ix * 2) T2 :=
          ⟨cell_fr HMP.out hf3 (HTB.out.c1 0), cell_fr HMP.out hf3 (HTB.out.c1 1), cell_fr HMP.out hf3 (HTB.out.c2 3), cell_fr HMP.out hf3 (HTB.out.c2 1), range_fr HMP.out hf3 t1⟩
        have HK0 : Hid (w3.drew.cell? ⟨w.heap.size, 0, none⟩ = some (.slice (some ⟨gt, oft, none⟩) tn tc) ∧ w3.drew.cell? ⟨w.heap.size, 1, none⟩ = some (.func (.func 57) #[] #[.pointer (some ⟨b, 0, none⟩)]) ∧ w3.drew.cell? ⟨w.heap.size + 1, 3, none⟩ = some (.string ty) ∧ w3.drew.cell? ⟨w.heap.size + 1, 1, none⟩ = some (.string mf) ∧ w3.drew.rangeAt gt (oft + ix * 2) T2) := HK0'
        have HKB : Hid (∀ W, Below w3.heap.size w3 W → W.cell? ⟨w.heap.size, 0, none⟩ = some (.slice (some ⟨gt, oft, none⟩) tn tc) ∧ W.cell? ⟨w.heap.size, 1, none⟩ = some (.func (.func 57) #[] #[.pointer (some ⟨b, 0, none⟩)]) ∧ W.cell? ⟨w.heap.size + 1, 3, none⟩ = some (.string ty) ∧ W.cell? ⟨w.heap.size + 1, 1, none⟩ = some (.string mf) ∧ W.rangeAt gt (oft + ix * 2) T2) := fun W hW =>
          ⟨(hW.cell (World.block_lt_of_cell? _ _ HK0'.1)).trans HK0'.1, (hW.cell (World.block_lt_of_cell? _ _ HK0'.2.1)).trans HK0'.2.1, (hW.cell (World.block_lt_of_cell? _ _ HK0'.2.2.1)).trans HK0'.2.2.1, (hW.cell (World.block_lt_of_cell? _ _ HK0'.2.2.2.1)).trans HK0'.2.2.2.1, range_below HK0'.2.2.2.2 hW⟩
        have c1 := HK0'.2.2.2.1
        have i1 : (0 : Int) ≤ (ix : Int) := by omega
        have i2 : (ix : Int) < (tn : Int) := by omega
        clear hf3 h9 HK0' hf o3 o4 zt t1 t2 hrd hat etn hx0 hix hty2 hs3
        go_wp2_with fail
        refine start_n (S := (fun w' => w'.cell? ⟨w.heap.size, 0, none⟩ = some (.slice (some ⟨gt, oft, none⟩) tn tc) ∧ w'.cell? ⟨w.heap.size, 1, none⟩ = some (.func (.func 57) #[] #[.pointer (some ⟨b, 0, none⟩)]) ∧ w'.cell? ⟨w.heap.size + 1, 3, none⟩ = some (.string ty) ∧ w'.cell? ⟨w.heap.size + 1, 1, none⟩ = some (.string mf) ∧ w'.rangeAt gt (oft + ix * 2) T2)) 18 #[false, false, false, false, false, false, false, false, false, false, false, false, false, false, false, false, false, false] rfl rfl (by kernel_rfl) (by { exact HK0.out }) (fun hHeld => ?_)
        refine take_mk (i := 0) (v := ?v1) rfl (by kernel_rfl) (by kernel_rfl) (by kernel_rfl) (fun _ _ _ h => h) (Or.inl ⟨by rfl, ?hy1⟩) (by assumption) ?rest1
        case hy1 => (intro w0 hSw; (try dsimp only at hSw); go_simp <;> (try (with_reducible rfl)))
        (try simp only [Act.put, List.setIfInBounds_toArray, List.set_cons_zero, List.set_cons_succ])
        refine take_mk (i := 1) (v := ?v2) rfl (by kernel_rfl) (by kernel_rfl) (by kernel_rfl) (fun _ _ _ h => h) (Or.inl ⟨by rfl, ?hy2⟩) (by assumption) ?rest2
        case hy2 => (intro w0 hSw; (try dsimp only at hSw); go_simp <;> (try (with_reducible rfl)))
        (try simp only [Act.put, List.setIfInBounds_toArray, List.set_cons_zero, List.set_cons_succ])
        refine take_mk (i := 2) (v := ?v3) rfl (by kernel_rfl) (by kernel_rfl) (by kernel_rfl) (fun _ _ _ h => h) (Or.inl ⟨by rfl, ?hy3⟩) (by assumption) ?rest3
        case hy3 => (intro w0 hSw; (try dsimp only at hSw); go_simp <;> (try (with_reducible rfl)))
        (try simp only [Act.put, List.setIfInBounds_toArray, List.set_cons_zero, List.set_cons_succ])
        refine take_mk (i := 3) (v := ?v4) rfl (by kernel_rfl) (by kernel_rfl) (by kernel_rfl) (fun _ _ _ h => h) (Or.inl ⟨by rfl, ?hy4⟩) (by assumption) ?rest4
        case hy4 => (intro w0 hSw; (try dsimp only at hSw); go_simp <;> (try (with_reducible rfl)))
        (try simp only [Act.put, List.setIfInBounds_toArray, List.set_cons_zero, List.set_cons_succ])
        refine take_mk (i := 4) (v := ?v5) rfl (by kernel_rfl) (by kernel_rfl) (by kernel_rfl) (fun _ _ _ h => h) (Or.inl ⟨by rfl, ?hy5⟩) (by assumption) ?rest5
        case hy5 => (intro w0 hSw; (try dsimp only at hSw); go_simp <;> (try (with_reducible rfl)))
        (try simp only [Act.put, List.setIfInBounds_toArray, List.set_cons_zero, List.set_cons_succ])
        refine take_mk (i := 5) (v := ?v6) rfl (by kernel_rfl) (by kernel_rfl) (by kernel_rfl) (fun _ _ _ h => h) (Or.inl ⟨by rfl, ?hy6⟩) (by assumption) ?rest6
        case hy6 => (intro w0 hSw; (try dsimp only at hSw); go_simp <;> (try (with_reducible rfl)))
        (try simp only [Act.put, List.setIfInBounds_toArray, List.set_cons_zero, List.set_cons_succ])
        refine take_mk (i := 6) (v := ?v7) rfl (by kernel_rfl) (by kernel_rfl) (by kernel_rfl) (fun _ _ _ h => h) (Or.inl ⟨by rfl, ?hy7⟩) (by assumption) ?rest7
        case hy7 => (intro w0 hSw; (try dsimp only at hSw); go_simp <;> (try (with_reducible rfl)))
        (try simp only [Act.put, List.setIfInBounds_toArray, List.set_cons_zero, List.set_cons_succ])
        refine take_mk (i := 10) (v := ?v8) rfl (by kernel_rfl) (by kernel_rfl) (by kernel_rfl) (fun _ _ _ h => h) (Or.inl ⟨by rfl, ?hy8⟩) (by assumption) ?rest8
        case hy8 => (intro w0 hSw; (try dsimp only at hSw); go_simp <;> (try (with_reducible rfl)))
        (try simp only [Act.put, List.setIfInBounds_toArray, List.set_cons_zero, List.set_cons_succ])
        refine take_mk (i := 11) (v := ?v9) rfl (by kernel_rfl) (by kernel_rfl) (by kernel_rfl) (fun _ _ _ h => h) (Or.inl ⟨by rfl, ?hy9⟩) (by assumption) ?rest9
        case hy9 => (intro w0 hSw; (try dsimp only at hSw); go_simp <;> (try (with_reducible rfl)))
        (try simp only [Act.put, List.setIfInBounds_toArray, List.set_cons_zero, List.set_cons_succ])
        refine wpAnyH_ready (rs := [7]) (by kernel_rfl) (by simp) ?_
        refine cons_mk rfl (fun K hK => ?_) AllReadyH.nil
        refine step_call_clo 57 ent_find (by rfl) _ _ _ (by rfl) (.pointer (some ⟨b, 0, none⟩)) (.string ty) (by rfl) (by rfl) _ (HFT.out _ (Below.drew (Below.refl _ _))) ?_
        rintro e w9 ⟨rfl, hb9⟩
        refine ⟨_, rfl, ?_⟩
        have HB9 : Hid (Below w3.heap.size w3 w9) := below_trans (Below.drew (Below.refl _ _)) hb9 (Nat.le_refl _)
        clear hb9
        refine hK.out _ _ (by { exact HKB.out _ HB9.out }) (fun hHeld => ?_)
        clear hK K
        (try simp only [Act.put, List.setIfInBounds_toArray, List.set_cons_zero, List.set_cons_succ])
        refine take_mk (i := 8) (v := ?v10) rfl (by kernel_rfl) (by kernel_rfl) (by kernel_rfl) (fun _ _ _ h => h) (Or.inl ⟨by rfl, ?hy10⟩) (by assumption) ?rest10
        case hy10 => (intro w0 hSw; (try dsimp only at hSw); go_simp <;> (try (with_reducible rfl)))
        (try simp only [Act.put, List.setIfInBounds_toArray, List.set_cons_zero, List.set_cons_succ])
        refine take_mk (i := 9) rfl (by kernel_rfl) (by kernel_rfl) (by kernel_rfl) (fun _ _ _ h => h) (yieldsIf_load_mid (by rfl) 72 _ rfl gt (oft + ix * 2) (by rfl) T2 _ (fun _ h => h.2.2.2.2) Tryd.underlying72 rfl ZT.out) (by assumption) ?_
        (try simp only [Act.put, List.setIfInBounds_toArray, List.set_cons_zero, List.set_cons_succ])
        refine wpAnyH_ready (rs := [12]) (by kernel_rfl) (by simp) ?_
        refine cons_mk rfl (fun K hK => ?_) AllReadyH.nil
        refine step_call2 71 ent_fk (by rfl) _ _ _ (by rfl) (.agg T2.toArray) (.string mf) (by rfl) (by rfl) _ (HFK.out _ HB9.out) ?_
        rintro e w10 ⟨rfl, hb10⟩
        refine ⟨_, rfl, ?_⟩
        have HB10 : Hid (Below w3.heap.size w3 w10) := below_trans HB9.out hb10 HB9.out.size
        clear hb10
        refine hK.out _ _ (by { exact HKB.out _ HB10.out }) (fun hHeld => ?_)
        clear hK K
        (try simp only [Act.put, List.setIfInBounds_toArray, List.set_cons_zero, List.set_cons_succ])
        refine take_mk (i := 13) (v := ?v11) rfl (by kernel_rfl) (by kernel_rfl) (by kernel_rfl) (fun _ _ _ h => h) (Or.inl ⟨by rfl, ?hy11⟩) (by assumption) ?rest11
        case hy11 => (intro w0 hSw; (try dsimp only at hSw); go_simp <;> (try (with_reducible rfl)))
        (try simp only [Act.put, List.setIfInBounds_toArray, List.set_cons_zero, List.set_cons_succ])
        refine take_mk (i := 14) (v := ?v12) rfl (by kernel_rfl) (by kernel_rfl) (by kernel_rfl) (fun _ _ _ h => h) (Or.inl ⟨by rfl, ?hy12⟩) (by assumption) ?rest12
        case hy12 => (intro w0 hSw; (try dsimp only at hSw); go_simp <;> (try (with_reducible rfl)))
        (try simp only [Act.put, List.setIfInBounds_toArray, List.set_cons_zero, List.set_cons_succ])
        refine take_mk (i := 15) (v := ?v13) rfl (by kernel_rfl) (by kernel_rfl) (by kernel_rfl) (fun _ _ _ h => h) (Or.inl ⟨by rfl, ?hy13⟩) (by assumption) ?rest13
        case hy13 => (intro w0 hSw; (try dsimp only at hSw); go_simp <;> (try (with_reducible rfl)))
        (try simp only [Act.put, List.setIfInBounds_toArray, List.set_cons_zero, List.set_cons_succ])
        refine take_mk (i := 16) (v := ?v14) rfl (by kernel_rfl) (by kernel_rfl) (by kernel_rfl) (fun _ _ _ h => h) (Or.inl ⟨by rfl, ?hy14⟩) (by assumption) ?rest14
        case hy14 => (intro w0 hSw; (try dsimp only at hSw); go_simp <;> (try (with_reducible rfl)))
        (try simp only [Act.put, List.setIfInBounds_toArray, List.set_cons_zero, List.set_cons_succ])
        refine take_mk (i := 17) (v := ?v15) rfl (by kernel_rfl) (by kernel_rfl) (by kernel_rfl) (fun _ _ _ h => h) (Or.inl ⟨by rfl, ?hy15⟩) (by assumption) ?rest15
        case hy15 => (intro w0 hSw; (try dsimp only at hSw); go_simp <;> (try (with_reducible rfl)))
        (try simp only [Act.put, List.setIfInBounds_toArray, List.set_cons_zero, List.set_cons_succ])
        refine wpAnyH_done (by kernel_rfl) ?_ _
        clear hHeld c1
        have HFF : Hid (Fr (fun i => i = mb) w w10) := HF.out.trans (Fr.of_below HB10.out)
        have HKK : Hid (Km w10 mb (Ks ++ [(va, (3, tyq ts ty))]) (n + 1)) := HK.out.later HB10.out
        by_cases hz : f2 = 0
        · subst hz
          by_cases hy : f1 = 1
          · subst hy
            have HR2 : Hid (E = 0) := by show _ = _; rw [HR.out]; simp
            go_wp2_with fail
            go_ret
            exact ⟨by rw [HR2.out]; rfl, HFF.out, fun _ => HKK.out⟩
          · have HR2 : Hid (E = 13) := by show _ = _; rw [HR.out]; simp [hy]
            have d1 : (f1 != 1) = true := by simpa using hy
            clear hy
            go_wp2_with fail
            go_ret
            exact ⟨by rw [HR2.out]; rfl, HFF.out, fun c => by rw [HR2.out] at c; cases c⟩
        · have HR2 : Hid (E = f2) := by show _ = _; rw [HR.out]; simp [hz]
          have d1 : (f2 == 0) = false := by simpa using hz
          have HZ := hid hz
          clear hz
          go_wp2_with fail
          go_ret
          exact ⟨by rw [HR2.out]; rfl, HFF.out, fun c => absurd (HR2.out.symm.trans c) HZ.out⟩
      · obtain ⟨rfl, hF, _⟩ := hr.pq HB.out
        have HF := hid hF
        have HR : Hid (E = e9) := by show _ = _; rw [← HE.out]; exact HM3.out h9
        have H9 := hid h9
        have d1 : (e9 != 0) = true := by simpa using h9
        clear hr h9 hF
        go_wp2_with fail
        go_ret
        exact ⟨by rw [HR.out]; rfl, HF.out, fun c => absurd (HR.out.symm.trans c) H9.out⟩
    · have HBD : Hid (mbad ⟨mc, mf, ⟨va, ty, ⟨ck, csb, l, r⟩, pw, pn⟩⟩ = true) := by show _ = _; unfold mbad; simp only; rw [hem]; simp; omega
      by_cases hlo : mc < 0
      · clear hr hem
        have HR : Hid (E = 2) := by show _ = _; rw [← HE.out]; exact mck_bad HBD.out
        go_enter Tryd.func53, Tryd.ntmps53
        go_wp2_with fail
        go_ret
        exact ⟨by rw [HR.out]; rfl, Fr.of_below HT.out.bel, fun c => by rw [HR.out] at c; cases c⟩
      · have g2 : 1125899906842624 < mc := by omega
        clear hr hem
        have HR : Hid (E = 2) := by show _ = _; rw [← HE.out]; exact mck_bad HBD.out
        go_enter Tryd.func53, Tryd.ntmps53
        go_wp2_with fail
        go_ret
        exact ⟨by rw [HR.out]; rfl, Fr.of_below HT.out.bel, fun c => by rw [HR.out] at c; cases c⟩
end Go.Proofs.YtnajcoikcoegoaaDoor.Chk
