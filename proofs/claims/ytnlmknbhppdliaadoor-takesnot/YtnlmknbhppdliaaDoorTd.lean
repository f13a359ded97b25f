/-
  An event of raw numbers.
-/
import Derived.Maps.AppendAt
import Derived.Test.YtnlmknbhppdliaaDoorTc
import Derived.Test.YtnlmknbhppdliaaDoorDu
set_option maxHeartbeats 64000000
namespace Go.Proofs.YtnlmknbhppdliaaDoor.Chk
open Go.ChangeShapes Go.WideShapes Go.ChangeAt Go.RowKit Go.Maps
set_option linter.unusedVariables false
set_option linter.unusedSimpArgs false
set_option maxRecDepth 20000
theorem Hp.fr {w0 W W' : World} {l : List (Nat × List Value × TypeId)} {b : Nat} (h : Hp w0 W l) (hf : Fr (fun i => i = b) W W') (hb : w0.heap.size ≤ b) (hn : ∀ i (hi : i < l.length), l[i].1 ≠ b) : Hp w0 W' l := ⟨zAO h.bel hf hb, fun i hi => (hf.block _ (zAE (h.b i hi)) (hn i hi)).trans (h.b i hi)⟩
theorem cut_any (s : ByteArray) (w : World) : Calls Tryd.prog 19 #[.string s, .int .i64 3] w fun e w' => ∃ t : ByteArray, e = .returned (.string t) ∧ t.size ≤ 3 ∧ w' = w := by
 by_cases h : s.size ≤ 3
 . have e2 : min (s.size : Int) 3 = (s.size : Nat) := by omega
   have HS := hid h
   go_enter Tryd.func19, Tryd.ntmps19
   go_wp2_with fail
   go_ret
   exact ⟨_, rfl, HS.out, rfl⟩
 . have e2 : min (s.size : Int) 3 = 3 := by omega
   have e3 : (3 : Int) ≤ (s.size : Int) := by omega
   have e4 : 3 ≤ s.size := by omega
   go_enter Tryd.func19, Tryd.ntmps19
   go_wp2_with fail
   go_ret
   exact ⟨_, rfl, by simp; omega, rfl⟩
theorem zBK {P : Program} {ops : Array Oper} {o : Oper} {a : Act} {w : World} {K : Act → World → Prop} {Q : Exit → Act → World → Prop} {E : Prop} (hw : Region.wanted o (yielded ops a.tmps) = true) (h : Oper.wp P o a w K Q) : if Region.wanted o (yielded ops a.tmps) = true then Oper.wp P o a w K Q else E := by
  rw [if_pos hw]
  exact h
abbrev zV : Value := .agg #[.int .i64 0, .int .i64 0, .string ⟨#[]⟩]
theorem infoV : (Tryd.prog.info? 29).map (fun i => (i.zero, i.size, i.bytes)) = some (some zV, 3, 32) := by kernel_rfl
theorem zDN {o : Oper} {a : Act} {W : World} {K : Act → World → Prop} {Q : Exit → Act → World → Prop} (s x : Operand) (ho : o.op = .call { callee := .builtin .append, args := #[s, x], argTypes := #[38, 38] }) (base : Nat) (rv : Value) (n : Nat) (xs : List Value) (hs : a.eval s = rv) (hr : W.ownsRow base 29 3 rv n xs) (hbase : base ≤ W.heap.size) (b : Nat) (us : List Value) (hx : a.eval x = .slice (some ⟨b, 0, none⟩) 1 1) (hb : W.heap[b]? = some (.cells us.toArray 29 (0, 0))) (hl : us.length = 3) (h1 : us.all (·.oneCell') = true) (hn : n ≤ 5)
  (h : ∀ v' W', W'.ownsRow base 29 3 v' (n + 1) (xs ++ us) → W.grownBy W' rv.ownBlock → K (a.put o.dst v') W') : Oper.wp Tryd.prog o a W K Q := by
 obtain ⟨i0, hi, hz0, hz1, hz2⟩ := info_parts infoV
 obtain ⟨v', w', r1, r2, r3, _, r5⟩ := run_append_own_at (P := Tryd.prog) W base 38 o.type 29 i0 zV 3 32 Tryd.underlying38 hi hz0 hz1 hz2 rfl (by omega) rv n xs hr ⟨b, 0, none⟩ 1 1 us (by omega) (fun j u hj => by rw [Addr.add_mid, zAD hb]; simpa using hj) (List.all_eq_true.1 h1) (by unfold maxLen; omega) (by omega) hbase
 unfold Oper.wp execOp
 simp only [ho, resolve, invoke, builtin, Sem.run_bind, Sem.run_pure, Result.andThen_ok, List.map_toArray, List.map_cons, List.map_nil, hs, hx, r1]
 exact h v' w' r2 r3
theorem rd_ownV {w : World} {base : Nat} {v : Value} {L : List V4.Vl} {xs : List Value} (h1 : w.ownsRow base 29 3 v L.length xs) (h2 : RdL w (L.map encV).flatten xs) : Rd w (.row 29 3 (L.map encV)) v := by
 have hc := h1
 rcases h1.2 with ⟨rfl, h5⟩ | ⟨ga, cap, cur, rfl, _, _, hn, hx, _⟩
 . obtain rfl : L = [] := List.eq_nil_of_length_eq_zero h5
   exact .nil _ _ none 0 (Nat.zero_le _)
 . by_cases h0 : 0 < L.length
   . have := Rd.row (w := w) 29 3 (L.map encV) ga 0 cap xs (by simpa using h0) (by simpa using hn) hx (fun j u hu => by
      have := hc.cells (g := ga) rfl j u hu
      rw [Addr.add_mid] at this
      simpa using this) h2.1 h2.2
     simpa using this
   . obtain rfl : L = [] := List.eq_nil_of_length_eq_zero (by omega)
     exact .nil _ _ _ cap hx
theorem Hp.grown {w0 W W' : World} {l : List (Nat × List Value × TypeId)} {row : Option Nat} (h : Hp w0 W l) (hg : W.grownBy W' row) (hr : ∀ k, row = some k → w0.heap.size ≤ k ∧ ∀ i (hi : i < l.length), l[i].1 ≠ k) : Hp w0 W' l := ⟨h.bel.grown hg h.bel.size (fun k hk => (hr k hk).1), fun i hi => (hg.block _ (zAE (h.b i hi)) (fun e => (hr _ e.symm).2 i hi rfl)).trans (h.b i hi)⟩
theorem zG4 {P : Program} {o : Oper} {a : Act} {w : World} {K : Act → World → Prop} {Q : Exit → Act → World → Prop} (t : TypeId) (n : Nat) (parts : Array (Nat × Operand)) (ho : o.op = .buildSlice t n parts) (vals : Array (Nat × Value)) (hp : (parts.map fun x => (x.1, a.eval x.2)) = vals) (cs : List Value) (U : TypeId) (hv : ∀ w, (Instr.buildSlice t n vals).run P w = .ok (.slice (some ⟨w.heap.size, 0, none⟩) n n) (w.alloc (.cells cs.toArray U)))
  (h : ∀ b w', w'.heap[b]? = some (.cells cs.toArray U (0, 0)) → Below w.heap.size w w' → K (a.put o.dst (.slice (some ⟨b, 0, none⟩) n n)) w') : Oper.wp P o a w K Q :=
 zDZ t n parts ho vals hp _ _ (hv w) (h _ _ (heap_alloc_new _ _) ((Below.refl _ _).alloc (Nat.le_refl _) _))
theorem zA3 {w : World} {base : Nat} {v : Value} {n : Nat} {xs : List Value} (h : w.ownsRow base 29 3 v n xs) {b : Nat} {cs : Array Value} {t : TypeId} (hb : w.heap[b]? = some (.cells cs t (0, 0))) (ht : t ≠ 29) : v.ownBlock ≠ some b := fun c => by
 rcases h.2 with ⟨rfl, _⟩ | ⟨g, cap, cur, rfl, _, h2, _⟩
 . simp [Value.ownBlock] at c
 . simp [Value.ownBlock] at c
   subst c
   rw [h2] at hb
   simp at hb
   exact ht hb.2.symm
theorem zCI {w w' : World} {base : Nat} {v : Value} {n : Nat} {xs : List Value} (h : w.ownsRow base 29 3 v n xs) {b : Nat} (hn : v.ownBlock ≠ some b) (hf : Fr (fun i => i = b) w w') : w'.ownsRow base 29 3 v n xs := zA4 h fun i hi => hf.block i (zAL h hi).2 (fun c => hn (by rw [hi, c]))
theorem zCT {w w' : World} {base : Nat} {v : Value} {n : Nat} {xs : List Value} (h : w.ownsRow base 29 3 v n xs) (hb : Below w.heap.size w w') : w'.ownsRow base 29 3 v n xs := zA4 h fun i hi => hb.block i (zAL h hi).2
theorem zDK {w : World} {base : Nat} {v : Value} {L : List V4.Vl} {xs : List Value} (h : w.ownsRow base 29 3 v L.length xs) (h2 : ∀ W, RdL W (L.map encV).flatten xs) : ∀ W, (∀ i, base ≤ i → i < w.heap.size → W.heap[i]? = w.heap[i]?) → Rd W (.row 29 3 (L.map encV)) v := fun W hW => rd_ownV (zA4 h fun i hi => hW i (zAL h hi).1 (zAL h hi).2) (h2 W)
def vls (j : Nat) (k : Int) (t : ByteArray) : List V4.Vl := if j = 2 then [] else if j = 1 then [⟨1, k, txt []⟩, ⟨2, 0, t⟩] else [⟨1, k, txt []⟩]
theorem zHM : ∀ args w, (callFunc 19 args).run Tryd.prog w = .ok (.enter 19 args) w := enters_of Tryd.func19 (by kernel_rfl) rfl
theorem zGU (kd ty lg nn dl : Int) (tx : ByteArray) (cl : Bool) (w : World) (h1 : -9223372036854775808 ≤ ty) (h2 : ty ≤ 9223372036854775807) (h3 : -9223372036854775808 ≤ lg) (h4 : lg ≤ 9223372036854775807) (h5 : -9223372036854775808 ≤ nn) (h6 : nn ≤ 9223372036854775807) (j : Nat) (hj : pkd ty 4 = (j : Int)) :
  Calls Tryd.prog 12 #[.agg #[.int .i64 kd, .int .i64 ty, .int .i64 lg, .int .i64 nn, .int .i64 dl, .string tx, .bool cl], .int .i64 20] w fun e w' => ∃ (s0 : Int) (t : ByteArray) (u : Value), t.size ≤ 3 ∧ e = .returned (.agg #[.int .i64 1, .string (tyN j), .int .i64 s0, .int .i64 20, u, .int .i64 0, .bool false]) ∧ 0 ≤ s0 ∧ s0 ≤ 20 ∧ (∀ W, (∀ i, w.heap.size ≤ i → i < w'.heap.size → W.heap[i]? = w'.heap[i]?) → Rd W (.row 29 3 ((vls j (pkd nn 6) t).map encV)) u) ∧ Below w.heap.size w w' := by
 have hj4 : j < 4 := by have := (zBZ ty (m := 4) (by decide)).2; omega
 obtain ⟨q, hq⟩ : ∃ q, pkd lg 9 = q := ⟨_, rfl⟩
 have hq9 := zBZ lg (m := 9) (by decide)
 rw [hq] at hq9
 obtain ⟨s0, hs0⟩ : ∃ s, 20 - q = s := ⟨_, rfl⟩
 have HPT := hid (fun W => zAM ty 4 W h1 h2 (by decide) (by decide))
 have HPL := hid (fun W => zAM lg 9 W h3 h4 (by decide) (by decide))
 have HPN := hid (fun W => zAM nn 6 W h5 h6 (by decide) (by decide))
 obtain ⟨k, hk⟩ : ∃ k, pkd nn 6 = k := ⟨_, rfl⟩
 rw [hk] at HPN ⊢
 rw [hj] at HPT
 have HCU := hid (fun W => cut_any tx W)
 rw [hq] at HPL
 have m1 : IntKind.i64.wrap (20 - q) = s0 := by rw [← hs0]; go_unwrap
 have m2 : max s0 0 = s0 := by omega
 have HS0 : Hid (0 ≤ s0 ∧ s0 ≤ 20) := by show _ ∧ _; omega
 have hB := bxs2 w [.int .i64 kd, .int .i64 ty, .int .i64 lg, .int .i64 nn, .int .i64 dl, .string tx, .bool cl] [.int .i64 0, .string ⟨#[]⟩, .int .i64 0, .int .i64 0, .slice none 0 0, .int .i64 0, .bool false] 25 66
 have HB := hid (hp2 hB)
 have HBD := hid ((hp2 hB).next (Below.drew (Below.refl _ _)))
 have c1 := hB.c 0 (by simp) 1
 simp only [Nat.add_zero] at c1
 have i1 : (0 : Int) ≤ (j : Int) := by omega
 have i2 : (j : Int) < 4 := by omega
 clear h1 h2 h3 h4 h5 h6 hj hq hq9 hB hs0 hk
 go_enter Tryd.func12, Tryd.ntmps12
 go_wp2_with (go_at_call 4; refine (HPT.out _).mono ?_; rintro e w1 ⟨rfl, rfl⟩)
 refine zAV (by kernel_rfl) (fun i w9 v => ([(fun w9 v => ∃ (b : Nat), v = .slice (some ⟨b, 0, none⟩) 4 4 ∧ w9.heap[b]? = some (.cells #[.string ⟨#[97]⟩, .string ⟨#[98]⟩, .string ⟨#[99]⟩, .string ⟨#[100]⟩] 9 (0, 0))), (fun w9 v => v = .int .i64 (j : Nat)), (fun w9 v => ∃ (b : Nat), v = .pointer (some ⟨b, j, none⟩) ∧ w9.heap[b]? = some (.cells #[.string ⟨#[97]⟩, .string ⟨#[98]⟩, .string ⟨#[99]⟩, .string ⟨#[100]⟩] 9 (0, 0))), (fun w9 v => v = .string (tyN j)), (fun w9 v => v = .int .i64 20), (fun w9 v => v = .pointer (some ⟨w.heap.size, 2, none⟩)), (fun w9 v => v = .int .i64 lg), (fun w9 v => v = .int .i64 q), (fun w9 v => v = .int .i64 s0), (fun w9 v => v = .int .i64 s0), (fun w9 v => v = .int .i64 20), (fun w9 v => v = .agg #[.int .i64 s0, .int .i64 20]), (fun w9 v => v = .agg #[.int .i64 1, .string (tyN j), .int .i64 s0, .int .i64 20, .slice none 0 0, .int .i64 0, .bool false]), (fun w9 v => ∃ (b : Nat), v = .pointer (some ⟨b, 0, none⟩) ∧ w9.heap[b]? = some (.cells #[.int .i64 0, .string ⟨#[]⟩, .int .i64 0, .int .i64 0, .slice none 0 0, .int .i64 0, .bool false] 66 (0, 0)) ∧ w.heap.size + 1 < b)] : List (World → Value → Prop)).getD i (fun _ _ => True) w9 v) (fun W => Hp w W [(w.heap.size, [.int .i64 kd, .int .i64 ty, .int .i64 lg, .int .i64 nn, .int .i64 dl, .string tx, .bool cl], 25), (w.heap.size + 1, [.int .i64 0, .string ⟨#[]⟩, .int .i64 0, .int .i64 0, .slice none 0 0, .int .i64 0, .bool false], 66)]) 46 14 rfl rfl (by kernel_rfl) (by kernel_rfl) (fun W W' => Below W.heap.size W W') ?hmon (HBD.out) (zAF.cons ?o0 (zAF.cons ?o1 (zAF.cons ?o2 (zAF.cons ?o3 (zAF.cons ?o4 (zAF.cons ?o5 (zAF.cons ?o6 (zAF.cons ?o7 (zAF.cons ?o8 (zAF.cons ?o9 (zAF.cons ?o10 (zAF.cons ?o11 (zAF.cons ?o12 (zAF.cons ?o13 zAF.nil)))))))))))))) ?hend
 case hmon =>
  intro q W W' v hb h
  rcases q with _ | _ | _ | _ | _ | _ | _ | _ | _ | _ | _ | _ | _ | _ | q
  . obtain ⟨b, e, h1⟩ := h; exact ⟨b, e, (hb.block _ (zAE h1)).trans h1⟩
  . exact h
  . obtain ⟨b, e, h1⟩ := h; exact ⟨b, e, (hb.block _ (zAE h1)).trans h1⟩
  . exact h
  . exact h
  . exact h
  . exact h
  . exact h
  . exact h
  . exact h
  . exact h
  . exact h
  . exact h
  . obtain ⟨b, e, h1, h2⟩ := h; exact ⟨b, e, (hb.block _ (zAE h1)).trans h1, h2⟩
  . exact h
 case o0 =>
  intro a W hB hd ho
  have hal : Below W.heap.size W (W.alloc (.cells #[.string ⟨#[97]⟩, .string ⟨#[98]⟩, .string ⟨#[99]⟩, .string ⟨#[100]⟩] 9)) := (Below.refl _ _).alloc (Nat.le_refl _) _
  refine zDZ 45 4 _ rfl #[(0, .string ⟨#[97]⟩), (1, .string ⟨#[98]⟩), (2, .string ⟨#[99]⟩), (3, .string ⟨#[100]⟩)] (by simp [ev_c]) (.slice (some ⟨W.heap.size, 0, none⟩) 4 4) (W.alloc (.cells #[.string ⟨#[97]⟩, .string ⟨#[98]⟩, .string ⟨#[99]⟩, .string ⟨#[100]⟩] 9)) (by kernel_rfl) ⟨_, rfl, ⟨W.heap.size, rfl, heap_alloc_new _ _⟩, hB.next hal, hal⟩
 case o1 =>
  intro a W hB hd ho
  have e5 : a.eval (.tmp 5) = .int .i64 (j : Nat) := ho 5 (by kernel_rfl)
  exact zFT _ (by simp) _ e5 ⟨_, rfl, rfl, hB, Below.refl _ _⟩
 case o2 =>
  intro a W hB hd ho
  obtain ⟨b, e10, h1⟩ : ∃ (b : Nat), a.eval (.tmp 10) = .slice (some ⟨b, 0, none⟩) 4 4 ∧ W.heap[b]? = some (.cells #[.string ⟨#[97]⟩, .string ⟨#[98]⟩, .string ⟨#[99]⟩, .string ⟨#[100]⟩] 9 (0, 0)) := hd 0 10 (by kernel_rfl)
  have e11 : a.eval (.tmp 11) = .int .i64 (j : Nat) := hd 1 11 (by kernel_rfl)
  exact zAZ (.pointer (some ⟨b, j, none⟩)) (by unfold execOp; simp only [ev_c, e10, e11]; go_simp) ⟨_, rfl, ⟨b, rfl, h1⟩, hB, Below.refl _ _⟩
 case o3 =>
  intro a W hB hd ho
  obtain ⟨b, e12, h1⟩ : ∃ (b : Nat), a.eval (.tmp 12) = .pointer (some ⟨b, j, none⟩) ∧ W.heap[b]? = some (.cells #[.string ⟨#[97]⟩, .string ⟨#[98]⟩, .string ⟨#[99]⟩, .string ⟨#[100]⟩] 9 (0, 0)) := hd 2 12 (by kernel_rfl)
  have c9 : W.cell? ⟨b, j, none⟩ = some (.string (tyN j)) := by
    rw [zAD h1]
    rcases (by omega : j = 0 ∨ j = 1 ∨ j = 2 ∨ j = 3) with rfl | rfl | rfl | rfl <;> rfl
  exact zAZ (.string (tyN j)) (by unfold execOp; simp only [ev_c, e12]; go_simp) ⟨_, rfl, rfl, hB, Below.refl _ _⟩
 case o4 =>
  intro a W hB hd ho
  have e1 : a.eval (.tmp 1) = .int .i64 20 := ho 1 (by kernel_rfl)
  exact zFT _ (by simp) _ e1 ⟨_, rfl, rfl, hB, Below.refl _ _⟩
 case o5 =>
  intro a W hB hd ho
  have e2 : a.eval (.tmp 2) = .pointer (some ⟨w.heap.size, 0, none⟩) := ho 2 (by kernel_rfl)
  exact zAZ (.pointer (some ⟨w.heap.size, 2, none⟩)) (by unfold execOp; simp only [ev_c, e2]; go_simp) ⟨_, rfl, rfl, hB, Below.refl _ _⟩
 case o6 =>
  intro a W hB hd ho
  have e15 : a.eval (.tmp 15) = .pointer (some ⟨w.heap.size, 2, none⟩) := hd 5 15 (by kernel_rfl)
  have c9 : W.cell? ⟨w.heap.size, 2, none⟩ = some (.int .i64 lg) := hB.c 0 (by simp) 2
  exact zAZ (.int .i64 lg) (by unfold execOp; simp only [ev_c, e15]; go_simp) ⟨_, rfl, rfl, hB, Below.refl _ _⟩
 case o7 =>
  intro a W hB hd ho
  have e16 : a.eval (.tmp 16) = .int .i64 lg := hd 6 16 (by kernel_rfl)
  refine zB9 4 zG7 _ _ rfl #[.int .i64 lg, .int .i64 9] (by simp [ev_c, e16]) _ (HPL.out W) ?_
  rintro e W' ⟨rfl, rfl⟩
  exact ⟨_, rfl, _, rfl, rfl, hB, Below.refl _ _⟩
 case o8 =>
  intro a W hB hd ho
  have e14 : a.eval (.tmp 14) = .int .i64 20 := hd 4 14 (by kernel_rfl)
  have e17 : a.eval (.tmp 17) = .int .i64 q := hd 7 17 (by kernel_rfl)
  exact zAZ (.int .i64 s0) (by unfold execOp; simp only [ev_c, e14, e17]; go_simp) ⟨_, rfl, rfl, hB, Below.refl _ _⟩
 case o9 =>
  intro a W hB hd ho
  have e18 : a.eval (.tmp 18) = .int .i64 s0 := hd 8 18 (by kernel_rfl)
  have e18' : a.tmps[18]?.getD undef = .int .i64 s0 := by simpa [Act.eval] using e18
  exact zAZ (.int .i64 s0) (by unfold execOp; simp only [ev_c, e18]; go_simp; (try (intro h9; have := HS0.out; omega))) ⟨_, rfl, rfl, hB, Below.refl _ _⟩
 case o10 =>
  intro a W hB hd ho
  have e1 : a.eval (.tmp 1) = .int .i64 20 := ho 1 (by kernel_rfl)
  exact zFT _ (by simp) _ e1 ⟨_, rfl, rfl, hB, Below.refl _ _⟩
 case o11 =>
  intro a W hB hd ho
  have e19 : a.eval (.tmp 19) = .int .i64 s0 := hd 9 19 (by kernel_rfl)
  have e20 : a.eval (.tmp 20) = .int .i64 20 := hd 10 20 (by kernel_rfl)
  exact zEA 37 _ rfl #[(0, .int .i64 s0), (1, .int .i64 20)] (by simp [ev_c, e19, e20]) (.agg #[.int .i64 s0, .int .i64 20]) (by kernel_rfl) ⟨_, rfl, rfl, hB, Below.refl _ _⟩
 case o12 =>
  intro a W hB hd ho
  have e13 : a.eval (.tmp 13) = .string (tyN j) := hd 3 13 (by kernel_rfl)
  have e21 : a.eval (.tmp 21) = .agg #[.int .i64 s0, .int .i64 20] := hd 11 21 (by kernel_rfl)
  exact zEA 66 _ rfl #[(0, .int .i64 1), (1, .string (tyN j)), (2, .agg #[.int .i64 s0, .int .i64 20])] (by simp [ev_c, e13, e21]) (.agg #[.int .i64 1, .string (tyN j), .int .i64 s0, .int .i64 20, .slice none 0 0, .int .i64 0, .bool false]) (by kernel_rfl) ⟨_, rfl, rfl, hB, Below.refl _ _⟩
 case o13 =>
  intro a W hB hd ho
  have hal : Below W.heap.size W (W.alloc (.cells #[.int .i64 0, .string ⟨#[]⟩, .int .i64 0, .int .i64 0, .slice none 0 0, .int .i64 0, .bool false] 66)) := (Below.refl _ _).alloc (Nat.le_refl _) _
  exact op_al 66 rfl [.int .i64 0, .string ⟨#[]⟩, .int .i64 0, .int .i64 0, .slice none 0 0, .int .i64 0, .bool false] (by kernel_rfl) ⟨_, rfl, ⟨W.heap.size, rfl, heap_alloc_new _ _, by have := zAE (hB.b 1 (by simp)); simpa using this⟩, hB.next hal, hal⟩
 case hend =>
  intro vs W o ho hB hT
  have e1 : vs 1 = .int .i64 (j : Nat) := hT 1 (by decide)
  have e3 : vs 3 = .string (tyN j) := hT 3 (by decide)
  have e4 : vs 4 = .int .i64 20 := hT 4 (by decide)
  have e5 : vs 5 = .pointer (some ⟨w.heap.size, 2, none⟩) := hT 5 (by decide)
  have e6 : vs 6 = .int .i64 lg := hT 6 (by decide)
  have e7 : vs 7 = .int .i64 q := hT 7 (by decide)
  have e8 : vs 8 = .int .i64 s0 := hT 8 (by decide)
  have e9 : vs 9 = .int .i64 s0 := hT 9 (by decide)
  have e10 : vs 10 = .int .i64 20 := hT 10 (by decide)
  have e11 : vs 11 = .agg #[.int .i64 s0, .int .i64 20] := hT 11 (by decide)
  have e12 : vs 12 = .agg #[.int .i64 1, .string (tyN j), .int .i64 s0, .int .i64 20, .slice none 0 0, .int .i64 0, .bool false] := hT 12 (by decide)
  obtain ⟨b, e13, h1, h2⟩ : ∃ (b : Nat), vs 13 = .pointer (some ⟨b, 0, none⟩) ∧ W.heap[b]? = some (.cells #[.int .i64 0, .string ⟨#[]⟩, .int .i64 0, .int .i64 0, .slice none 0 0, .int .i64 0, .bool false] 66 (0, 0)) ∧ w.heap.size + 1 < b := hT 13 (by decide)
  cases (show some _ = some o from ho)
  simp only [List.toList_toArray, List.take_succ_cons, List.take_zero, fill, if_true, Act.put, List.setIfInBounds_toArray, List.set_cons_zero, List.set_cons_succ, e1, e3, e4, e5, e6, e7, e8, e9, e10, e11, e12, e13]
  refine op_st 66 _ _ rfl b 0 [.int .i64 0, .string ⟨#[]⟩, .int .i64 0, .int .i64 0, .slice none 0 0, .int .i64 0, .bool false] 66 (.agg #[.int .i64 1, .string (tyN j), .int .i64 s0, .int .i64 20, .slice none 0 0, .int .i64 0, .bool false]) [.int .i64 1, .string (tyN j), .int .i64 s0, .int .i64 20, .slice none 0 0, .int .i64 0, .bool false] (by rfl) (by rfl) (by rfl) h1 (by simp) (by kernel_rfl) (by rfl) ?_
  intro w5 hblk hfr
  have hp5 : Hp w w5 [(w.heap.size, [.int .i64 kd, .int .i64 ty, .int .i64 lg, .int .i64 nn, .int .i64 dl, .string tx, .bool cl], 25), (w.heap.size + 1, [.int .i64 0, .string ⟨#[]⟩, .int .i64 0, .int .i64 0, .slice none 0 0, .int .i64 0, .bool false], 66)] := hB.fr hfr (by omega) (fun i hi => by rcases i with _ | _ | i; (show w.heap.size ≠ b; omega); (show w.heap.size + 1 ≠ b; omega); exact absurd hi (by simp))
  have HP5 := hid hp5
  have HW5 : Hid (w5.heap[b]? = some (.cells #[.int .i64 1, .string (tyN j), .int .i64 s0, .int .i64 20, .slice none 0 0, .int .i64 0, .bool false] 66 (0, 0))) := hblk
  have HBB := hid h2
  obtain ⟨v0, hv0⟩ : ∃ x, vs 0 = x := ⟨_, rfl⟩
  obtain ⟨v2, hv2⟩ : ∃ x, vs 2 = x := ⟨_, rfl⟩
  rw [hv0, hv2]
  clear hblk hfr hp5 h1 h2 hB hT hv0 hv2 e1 e3 e4 e5 e6 e7 e8 e9 e10 e11 e12 e13
  by_cases j2 : j = 2
  . have g1 : ((j : Int) != 2) = false := by simp; omega
    have g1c : (j = 2) = True := by simp [j2]
    have g2 : ((j : Int) == 1) = false := by simp; omega
    have g2c : (j = 1) = False := by simp; omega
    have XO : Hid (w5.rangeAt b 0 [.int .i64 1, .string (tyN j), .int .i64 s0, .int .i64 20, .slice none 0 0, .int .i64 0, .bool false]) := zAJ HW5.out
    have HZ1 := hid (HP5.out.b 1 (by simp))
    have HBL := hid HP5.out.bel
    go_wp2_with (first
     | ((with_reducible show wpList _ _ _ (Oper.mk _ (.load 66 _) _ _ _ _ :: _) _ _); refine wpList_load_mid (by rfl) 66 _ (by rfl) b 0 (by rfl) [.int .i64 1, .string (tyN j), .int .i64 s0, .int .i64 20, .slice none 0 0, .int .i64 0, .bool false] _ XO.out Tryd.underlying66 rfl (by kernel_rfl) ?_)
     | ((with_reducible show wpList _ _ _ (Oper.mk _ (.store 66 _ _) _ _ _ _ :: _) _ _); refine zA5 66 (w.heap.size + 1) 0 [.int .i64 0, .string ⟨#[]⟩, .int .i64 0, .int .i64 0, .slice none 0 0, .int .i64 0, .bool false] 66 [.int .i64 1, .string (tyN j), .int .i64 s0, .int .i64 20, .slice none 0 0, .int .i64 0, .bool false] HZ1.out ?_; intro w9 hblk hfr; have HW9 := hid hblk; have HBE : Hid (Below w.heap.size w w9) := zAO HBL.out hfr (by omega); have HF9 := hid hfr; clear hblk hfr))
    exact zAU (w.heap.size + 1) [.int .i64 1, .string (tyN j), .int .i64 s0, .int .i64 20, .slice none 0 0, .int .i64 0, .bool false] 66 _ HW9.out rfl rfl (by rfl) Tryd.underlying66 rfl (by kernel_rfl) ⟨s0, txt [], _, by decide, rfl, HS0.out.1, HS0.out.2, by rw [show vls j k (txt []) = [] from by unfold vls; rw [if_pos j2]]; exact fun _ _ => .nil _ _ none 0 (Nat.zero_le _), HBE.out⟩
  . have g1 : ((j : Int) != 2) = true := by simp; omega
    have g1c : (j = 2) = False := by simp [j2]
    have HP3 := hid (HP5.out.add (Below.refl _ _) HW5.out)
    have HP3D : Hid (Hp w w5.drew [(w.heap.size, [.int .i64 kd, .int .i64 ty, .int .i64 lg, .int .i64 nn, .int .i64 dl, .string tx, .bool cl], 25), (w.heap.size + 1, [.int .i64 0, .string ⟨#[]⟩, .int .i64 0, .int .i64 0, .slice none 0 0, .int .i64 0, .bool false], 66), (b, [.int .i64 1, .string (tyN j), .int .i64 s0, .int .i64 20, .slice none 0 0, .int .i64 0, .bool false], 66)]) := HP3.out.next (Below.drew (Below.refl _ _))
    have hbb : w.heap.size + 1 < b := HBB.out
    clear HP5 HW5 HB HBD HP3 HPT HPL c1
    go_wp2_with fail
    refine zAV (by kernel_rfl) (fun i w9 v => ([(fun w9 v => v = .pointer (some ⟨b, 4, none⟩)), (fun w9 v => v = .slice none 0 0), (fun w9 v => v = .pointer (some ⟨w.heap.size, 3, none⟩)), (fun w9 v => v = .int .i64 nn), (fun w9 v => v = .int .i64 k), (fun w9 v => v = .agg #[.int .i64 1, .int .i64 k, .string ⟨#[]⟩]), (fun w9 v => ∃ (c : Nat), v = .slice (some ⟨c, 0, none⟩) 1 1 ∧ w9.heap[c]? = some (.cells #[.int .i64 1, .int .i64 k, .string ⟨#[]⟩] 29 (0, 0))), (fun w9 v => w9.ownsRow w.heap.size 29 3 v 1 [.int .i64 1, .int .i64 k, .string ⟨#[]⟩]), (fun w9 v => v = .pointer (some ⟨b, 4, none⟩))] : List (World → Value → Prop)).getD i (fun _ _ => True) w9 v) (fun W => Hp w W [(w.heap.size, [.int .i64 kd, .int .i64 ty, .int .i64 lg, .int .i64 nn, .int .i64 dl, .string tx, .bool cl], 25), (w.heap.size + 1, [.int .i64 0, .string ⟨#[]⟩, .int .i64 0, .int .i64 0, .slice none 0 0, .int .i64 0, .bool false], 66), (b, [.int .i64 1, .string (tyN j), .int .i64 s0, .int .i64 20, .slice none 0 0, .int .i64 0, .bool false], 66)]) 46 9 rfl rfl (by kernel_rfl) (by kernel_rfl) (fun W W' => Below W.heap.size W W') ?hmon (HP3D.out) (zAF.cons ?o0 (zAF.cons ?o1 (zAF.cons ?o2 (zAF.cons ?o3 (zAF.cons ?o4 (zAF.cons ?o5 (zAF.cons ?o6 (zAF.cons ?o7 (zAF.cons ?o8 zAF.nil))))))))) ?hend
    case hmon =>
     intro q W W' v hb h
     rcases q with _ | _ | _ | _ | _ | _ | _ | _ | _ | q
     . exact h
     . exact h
     . exact h
     . exact h
     . exact h
     . exact h
     . obtain ⟨c, e, h1⟩ := h; exact ⟨c, e, (hb.block _ (zAE h1)).trans h1⟩
     . exact zCT h hb
     . exact h
     . exact h
    case o0 =>
     intro a W hB hd ho
     have e6 : a.eval (.tmp 6) = .pointer (some ⟨b, 0, none⟩) := ho 6 (by kernel_rfl)
     exact zAZ (.pointer (some ⟨b, 4, none⟩)) (by unfold execOp; simp only [ev_c, e6]; go_simp) ⟨_, rfl, rfl, hB, Below.refl _ _⟩
    case o1 =>
     intro a W hB hd ho
     have e25 : a.eval (.tmp 25) = .pointer (some ⟨b, 4, none⟩) := hd 0 25 (by kernel_rfl)
     have c9 : W.cell? ⟨b, 4, none⟩ = some (.slice none 0 0) := hB.c 2 (by simp) 4
     exact zAZ (.slice none 0 0) (by unfold execOp; simp only [ev_c, e25]; go_simp) ⟨_, rfl, rfl, hB, Below.refl _ _⟩
    case o2 =>
     intro a W hB hd ho
     have e2 : a.eval (.tmp 2) = .pointer (some ⟨w.heap.size, 0, none⟩) := ho 2 (by kernel_rfl)
     exact zAZ (.pointer (some ⟨w.heap.size, 3, none⟩)) (by unfold execOp; simp only [ev_c, e2]; go_simp) ⟨_, rfl, rfl, hB, Below.refl _ _⟩
    case o3 =>
     intro a W hB hd ho
     have e27 : a.eval (.tmp 27) = .pointer (some ⟨w.heap.size, 3, none⟩) := hd 2 27 (by kernel_rfl)
     have c9 : W.cell? ⟨w.heap.size, 3, none⟩ = some (.int .i64 nn) := hB.c 0 (by simp) 3
     exact zAZ (.int .i64 nn) (by unfold execOp; simp only [ev_c, e27]; go_simp) ⟨_, rfl, rfl, hB, Below.refl _ _⟩
    case o4 =>
     intro a W hB hd ho
     have e28 : a.eval (.tmp 28) = .int .i64 nn := hd 3 28 (by kernel_rfl)
     refine zB9 4 zG7 _ _ rfl #[.int .i64 nn, .int .i64 6] (by simp [ev_c, e28]) _ (HPN.out W) ?_
     rintro e W' ⟨rfl, rfl⟩
     exact ⟨_, rfl, _, rfl, rfl, hB, Below.refl _ _⟩
    case o5 =>
     intro a W hB hd ho
     have e29 : a.eval (.tmp 29) = .int .i64 k := hd 4 29 (by kernel_rfl)
     exact zEA 29 _ rfl #[(0, .int .i64 1), (1, .int .i64 k)] (by simp [ev_c, e29]) (.agg #[.int .i64 1, .int .i64 k, .string ⟨#[]⟩]) (by kernel_rfl) ⟨_, rfl, rfl, hB, Below.refl _ _⟩
    case o6 =>
     intro a W hB hd ho
     have e30 : a.eval (.tmp 30) = .agg #[.int .i64 1, .int .i64 k, .string ⟨#[]⟩] := hd 5 30 (by kernel_rfl)
     have hal : Below W.heap.size W (W.alloc (.cells #[.int .i64 1, .int .i64 k, .string ⟨#[]⟩] 29)) := (Below.refl _ _).alloc (Nat.le_refl _) _
     refine zDZ 38 1 _ rfl #[(0, .agg #[.int .i64 1, .int .i64 k, .string ⟨#[]⟩])] (by simp [ev_c, e30]) (.slice (some ⟨W.heap.size, 0, none⟩) 1 1) (W.alloc (.cells #[.int .i64 1, .int .i64 k, .string ⟨#[]⟩] 29)) (by kernel_rfl) ⟨_, rfl, ⟨W.heap.size, rfl, heap_alloc_new _ _⟩, hB.next hal, hal⟩
    case o7 =>
     intro a W hB hd ho
     have e26 : a.eval (.tmp 26) = .slice none 0 0 := hd 1 26 (by kernel_rfl)
     obtain ⟨c, e31, h1⟩ : ∃ (c : Nat), a.eval (.tmp 31) = .slice (some ⟨c, 0, none⟩) 1 1 ∧ W.heap[c]? = some (.cells #[.int .i64 1, .int .i64 k, .string ⟨#[]⟩] 29 (0, 0)) := hd 6 31 (by kernel_rfl)
     refine zDN _ _ rfl w.heap.size (.slice none 0 0) 0 [] e26 (World.ownsRow_nil _ _ _ _) hB.bel.size c [.int .i64 1, .int .i64 k, .string ⟨#[]⟩] e31 h1 rfl rfl (by omega) ?_
     intro v' W' hr hg
     have hb : Below W.heap.size W W' := (Below.refl _ _).grown hg (Nat.le_refl _) (fun k hk => by cases hk)
     exact ⟨_, rfl, hr, hB.next hb, hb⟩
    case o8 =>
     intro a W hB hd ho
     have e6 : a.eval (.tmp 6) = .pointer (some ⟨b, 0, none⟩) := ho 6 (by kernel_rfl)
     exact zAZ (.pointer (some ⟨b, 4, none⟩)) (by unfold execOp; simp only [ev_c, e6]; go_simp) ⟨_, rfl, rfl, hB, Below.refl _ _⟩
    case hend =>
     intro vs W o ho hB hT
     have f0 : vs 0 = .pointer (some ⟨b, 4, none⟩) := hT 0 (by decide)
     have f1 : vs 1 = .slice none 0 0 := hT 1 (by decide)
     have f2 : vs 2 = .pointer (some ⟨w.heap.size, 3, none⟩) := hT 2 (by decide)
     have f3 : vs 3 = .int .i64 nn := hT 3 (by decide)
     have f4 : vs 4 = .int .i64 k := hT 4 (by decide)
     have f5 : vs 5 = .agg #[.int .i64 1, .int .i64 k, .string ⟨#[]⟩] := hT 5 (by decide)
     have f8 : vs 8 = .pointer (some ⟨b, 4, none⟩) := hT 8 (by decide)
     have hr7 : W.ownsRow w.heap.size 29 3 (vs 7) 1 [.int .i64 1, .int .i64 k, .string ⟨#[]⟩] := hT 7 (by decide)
     obtain ⟨p7, c7, hv7⟩ := zBP hr7
     cases (show some _ = some o from ho)
     simp only [List.toList_toArray, List.take_succ_cons, List.take_zero, fill, if_true, Act.put, List.setIfInBounds_toArray, List.set_cons_zero, List.set_cons_succ, f0, f1, f2, f3, f4, f5, f8]
     refine op_st 38 _ _ rfl b 4 [.int .i64 1, .string (tyN j), .int .i64 s0, .int .i64 20, .slice none 0 0, .int .i64 0, .bool false] 66 (vs 7) [vs 7] (by rfl) (by rfl) (by rw [hv7]; rfl) (hB.b 2 (by simp)) (by simp) (by kernel_rfl) (by rw [hv7]; rfl) ?_
     intro w8 hblk hfr
     obtain ⟨v7, hvv⟩ : ∃ x, vs 7 = x := ⟨_, rfl⟩
     obtain ⟨v6, hv6⟩ : ∃ x, vs 6 = x := ⟨_, rfl⟩
     rw [hvv] at hblk hr7 hv7 ⊢
     rw [hv6]
     have HW8 : Hid (w8.heap[b]? = some (.cells #[.int .i64 1, .string (tyN j), .int .i64 s0, .int .i64 20, v7, .int .i64 0, .bool false] 66 (0, 0))) := hblk
     have HP8 : Hid (Hp w w8 [(w.heap.size, [.int .i64 kd, .int .i64 ty, .int .i64 lg, .int .i64 nn, .int .i64 dl, .string tx, .bool cl], 25), (w.heap.size + 1, [.int .i64 0, .string ⟨#[]⟩, .int .i64 0, .int .i64 0, .slice none 0 0, .int .i64 0, .bool false], 66)]) := (show Hp w W [(w.heap.size, [.int .i64 kd, .int .i64 ty, .int .i64 lg, .int .i64 nn, .int .i64 dl, .string tx, .bool cl], 25), (w.heap.size + 1, [.int .i64 0, .string ⟨#[]⟩, .int .i64 0, .int .i64 0, .slice none 0 0, .int .i64 0, .bool false], 66)] from ⟨hB.bel, fun i hi => by rcases i with _ | _ | i; exact hB.b 0 (by simp); exact hB.b 1 (by simp); exact absurd hi (by simp)⟩).fr hfr (by omega) (fun i hi => by rcases i with _ | _ | i; (show w.heap.size ≠ b; omega); (show w.heap.size + 1 ≠ b; omega); exact absurd hi (by simp))
     have HR8 := hid (zCI hr7 (zA3 hr7 (hB.b 2 (by simp)) (show (66 : TypeId) ≠ 29 from by decide)) hfr)
     subst hv7
     clear hblk hfr hr7 hB hT hvv hv6 f0 f1 f2 f3 f4 f5 f8
     by_cases j1 : j = 1
     . have g3 : ((j : Int) == 1) = true := by simp; omega
       have g3c : (j = 1) = True := by simp [j1]
       have HWD : Hid (w8.drew.heap[b]? = some (.cells #[.int .i64 1, .string (tyN j), .int .i64 s0, .int .i64 20, (.slice p7 1 c7), .int .i64 0, .bool false] 66 (0, 0))) := HW8.out
       have HRD : Hid (w8.drew.ownsRow w.heap.size 29 3 (.slice p7 1 c7) 1 [.int .i64 1, .int .i64 k, .string ⟨#[]⟩]) := zCT HR8.out (Below.drew (Below.refl _ _))
       have HPD := hid (HP8.out.next (Below.drew (Below.refl _ _)))
       clear HW8 HR8 HP8
       go_wp2_with fail
       refine zBG (S := (fun w' => w'.cell? ⟨w.heap.size, 5, none⟩ = some (.string tx) ∧ Hp w w' [(w.heap.size, [.int .i64 kd, .int .i64 ty, .int .i64 lg, .int .i64 nn, .int .i64 dl, .string tx, .bool cl], 25), (w.heap.size + 1, [.int .i64 0, .string ⟨#[]⟩, .int .i64 0, .int .i64 0, .slice none 0 0, .int .i64 0, .bool false], 66)])) 10 #[false, false, false, false, false, false, false, false, false, false] rfl rfl (by kernel_rfl) (⟨HPD.out.c 0 (by simp) 5, HPD.out⟩) (fun hHeld => ?_)
       refine tkq (i := 0) (v := ?v1) rfl ?hy1 ?rest1; (case hy1 => intro w0 hSw; (try dsimp only at hSw); go_simp <;> (try (with_reducible rfl))); (try simp only [puts])
       refine tkq (i := 2) (v := ?v2) rfl ?hy2 ?rest2; (case hy2 => intro w0 hSw; (try dsimp only at hSw); go_simp <;> (try (with_reducible rfl))); (try simp only [puts])
       refine tkq (i := 3) (v := ?v3) rfl ?hy3 ?rest3; (case hy3 => intro w0 hSw; (try dsimp only at hSw); go_simp <;> (try (with_reducible rfl))); (try simp only [puts])
       refine wpAnyH_ready (rs := [1, 4]) (by kernel_rfl) (by simp) ?_
       refine zAQ rfl (fun K hK => ?_) (zAQ rfl (fun K hK => ?_) AllReadyH.nil)
       . refine zBK (by rfl) ?_
         have cb : w8.drew.cell? ⟨b, 4, none⟩ = some (.slice p7 1 c7) := zAD HWD.out 4
         refine zAZ (.slice p7 1 c7) (by unfold execOp; go_simp) ?_
         clear cb
         refine hK.out _ _ (⟨HPD.out.c 0 (by simp) 5, HPD.out⟩) (fun hHeld => ?_)
         clear hK K
         (try simp only [puts])
         refine wpAnyH_ready (rs := [4]) (by kernel_rfl) (by simp) ?_
         refine zAQ rfl (fun K hK => ?_) AllReadyH.nil
         refine zA2 19 zHM (by rfl) _ _ _ (by rfl) (.string tx) (.int .i64 3) (by rfl) (by rfl) _ (HCU.out _) ?_
         rintro e wz ⟨t, rfl, ht, hwz⟩
         subst hwz
         refine ⟨_, rfl, ?_⟩
         have HTT := hid ht
         clear ht
         refine hK.out _ _ (⟨HPD.out.c 0 (by simp) 5, HPD.out⟩) (fun hHeld => ?_)
         clear hK K
         (try simp only [puts])
         refine zEB (i := 5) (v := .agg #[.int .i64 2, .int .i64 0, .string t]) rfl (by kernel_rfl) (by kernel_rfl) (by kernel_rfl) (fun _ _ _ h => h) (zBY (by rfl) 29 _ (by rfl) #[(0, .int .i64 2), (2, .string t)] (by simp [Act.eval, Act.put]) _ (fun w => by kernel_rfl)) (by assumption) ?_
         (try simp only [puts])
         refine wpAnyH_ready (rs := [6]) (by kernel_rfl) (by simp) ?_
         refine zAQ rfl (fun K hK => ?_) AllReadyH.nil
         refine zBK (by rfl) ?_
         refine zG4 38 1 _ (by rfl) #[(0, .agg #[.int .i64 2, .int .i64 0, .string t])] (by simp [Act.eval]) [.int .i64 2, .int .i64 0, .string t] 29 (fun w => by kernel_rfl) ?_
         intro cc y3 hcc hbb2
         have HCC := hid hcc
         have HWD2 : Hid (y3.heap[b]? = some (.cells #[.int .i64 1, .string (tyN j), .int .i64 s0, .int .i64 20, (.slice p7 1 c7), .int .i64 0, .bool false] 66 (0, 0))) := (hbb2.block _ (zAE HWD.out)).trans HWD.out
         have HRD2 := hid (zCT HRD.out hbb2)
         have HPD2 := hid (HPD.out.next hbb2)
         clear hcc hbb2 HWD HRD HPD
         have HWD := HWD2
         have HRD := HRD2
         have HPD := HPD2
         clear HWD2 HRD2 HPD2
         refine hK.out _ _ (⟨HPD.out.c 0 (by simp) 5, HPD.out⟩) (fun hHeld => ?_)
         clear hK K
         (try simp only [puts])
         refine wpAnyH_ready (rs := [7]) (by kernel_rfl) (by simp) ?_
         refine zAQ rfl (fun K hK => ?_) AllReadyH.nil
         refine zBK (by rfl) ?_
         refine zDN _ _ (by rfl) w.heap.size (.slice p7 1 c7) 1 [.int .i64 1, .int .i64 k, .string ⟨#[]⟩] (by rfl) HRD.out HPD.out.bel.size cc [.int .i64 2, .int .i64 0, .string t] (by rfl) HCC.out rfl (by rfl) (by omega) ?_
         intro v9 w9 hr9 hg9
         have HW9 : Hid (w9.heap[b]? = some (.cells #[.int .i64 1, .string (tyN j), .int .i64 s0, .int .i64 20, (.slice p7 1 c7), .int .i64 0, .bool false] 66 (0, 0))) := (hg9.block _ (zAE HWD.out) (fun e => zA3 HRD.out HWD.out (show (66 : TypeId) ≠ 29 from by decide) e.symm)).trans HWD.out
         have HP9 : Hid (Hp w w9 [(w.heap.size, [.int .i64 kd, .int .i64 ty, .int .i64 lg, .int .i64 nn, .int .i64 dl, .string tx, .bool cl], 25), (w.heap.size + 1, [.int .i64 0, .string ⟨#[]⟩, .int .i64 0, .int .i64 0, .slice none 0 0, .int .i64 0, .bool false], 66)]) := HPD.out.grown hg9 (fun q hq => ⟨(zAL HRD.out hq).1, fun i hi => by
           rcases i with _ | _ | i
           . exact fun c => zA3 HRD.out (HPD.out.b 0 (by simp)) (show (25 : TypeId) ≠ 29 from by decide) (by rw [hq, ← c])
           . exact fun c => zA3 HRD.out (HPD.out.b 1 (by simp)) (show (66 : TypeId) ≠ 29 from by decide) (by rw [hq, ← c])
           . exact absurd hi (by simp)⟩)
         have HR9 := hid hr9
         clear hg9 hr9 HRD HWD HPD HCC
         refine hK.out _ _ (⟨HP9.out.c 0 (by simp) 5, HP9.out⟩) (fun hHeld => ?_)
         clear hK K
         (try simp only [puts])
         refine tkq (i := 8) (v := ?v4) rfl ?hy4 ?rest4; (case hy4 => intro w0 hSw; (try dsimp only at hSw); go_simp <;> (try (with_reducible rfl))); (try simp only [puts])
         refine wpAnyH_ready (rs := [9]) (by kernel_rfl) (by simp) ?_
         refine zAQ rfl (fun K hK => ?_) AllReadyH.nil
         obtain ⟨p9, c9, hv9⟩ := zBP HR9.out
         subst hv9
         refine zD6 (by rfl) 38 _ _ (by rfl) b 4 [.int .i64 1, .string (tyN j), .int .i64 s0, .int .i64 20, (.slice p7 1 c7), .int .i64 0, .bool false] 66 (.slice p9 (1 + 1) c9) [.slice p9 (1 + 1) c9] (by rfl) (by rfl) (by rfl) HW9.out (by simp) (by kernel_rfl) (by rfl) ?_
         intro w10 hm10 hf10
         have HW8 : Hid (w10.heap[b]? = some (.cells #[.int .i64 1, .string (tyN j), .int .i64 s0, .int .i64 20, (.slice p9 (1 + 1) c9), .int .i64 0, .bool false] 66 (0, 0))) := hm10
         have HP8 : Hid (Hp w w10 [(w.heap.size, [.int .i64 kd, .int .i64 ty, .int .i64 lg, .int .i64 nn, .int .i64 dl, .string tx, .bool cl], 25), (w.heap.size + 1, [.int .i64 0, .string ⟨#[]⟩, .int .i64 0, .int .i64 0, .slice none 0 0, .int .i64 0, .bool false], 66)]) := HP9.out.fr hf10 (by omega) (fun i hi => by rcases i with _ | _ | i; (show w.heap.size ≠ b; omega); (show w.heap.size + 1 ≠ b; omega); exact absurd hi (by simp))
         have HR8 := hid (zCI HR9.out (zA3 HR9.out HW9.out (show (66 : TypeId) ≠ 29 from by decide)) hf10)
         clear hm10 hf10 HW9 HP9 HR9
         refine hK.out _ _ (⟨HP8.out.c 0 (by simp) 5, HP8.out⟩) (fun hHeld => ?_)
         clear hK K
         (try simp only [puts])
         refine wpAnyH_done (by kernel_rfl) ?_ _
         have XO : Hid (w10.rangeAt b 0 [.int .i64 1, .string (tyN j), .int .i64 s0, .int .i64 20, (.slice p9 (1 + 1) c9), .int .i64 0, .bool false]) := zAJ HW8.out
         have HZ1 := hid (HP8.out.b 1 (by simp))
         have HBL := hid HP8.out.bel
         go_wp2_with (first
           | ((with_reducible show wpList _ _ _ (Oper.mk _ (.load 66 _) _ _ _ _ :: _) _ _); refine wpList_load_mid (by rfl) 66 _ (by rfl) b 0 (by rfl) [.int .i64 1, .string (tyN j), .int .i64 s0, .int .i64 20, (.slice p9 (1 + 1) c9), .int .i64 0, .bool false] _ XO.out Tryd.underlying66 rfl (by kernel_rfl) ?_)
           | ((with_reducible show wpList _ _ _ (Oper.mk _ (.store 66 _ _) _ _ _ _ :: _) _ _); refine zA5 66 (w.heap.size + 1) 0 [.int .i64 0, .string ⟨#[]⟩, .int .i64 0, .int .i64 0, .slice none 0 0, .int .i64 0, .bool false] 66 [.int .i64 1, .string (tyN j), .int .i64 s0, .int .i64 20, (.slice p9 (1 + 1) c9), .int .i64 0, .bool false] HZ1.out ?_; intro w11 hblk hfr; have HW11 := hid hblk; have HBE : Hid (Below w.heap.size w w11) := zAO HBL.out hfr (by omega); have HF11 := hid hfr; clear hblk hfr))
         exact zAU (w.heap.size + 1) [.int .i64 1, .string (tyN j), .int .i64 s0, .int .i64 20, (.slice p9 (1 + 1) c9), .int .i64 0, .bool false] 66 _ HW11.out rfl rfl (by rfl) Tryd.underlying66 rfl (by kernel_rfl) ⟨s0, t, _, HTT.out, rfl, HS0.out.1, HS0.out.2, by rw [show vls j k t = [⟨1, k, txt []⟩, ⟨2, 0, t⟩] from by unfold vls; rw [if_neg j2, if_pos j1]]; exact zDK (L := [⟨1, k, txt []⟩, ⟨2, 0, t⟩]) (zCI HR8.out (zA3 HR8.out HZ1.out (show (66 : TypeId) ≠ 29 from by decide)) HF11.out) (fun _ => zAT [.int .i64 1, .int .i64 k, .string (txt []), .int .i64 2, .int .i64 0, .string t]), HBE.out⟩
       . refine zA2 19 zHM (by rfl) _ _ _ (by rfl) (.string tx) (.int .i64 3) (by rfl) (by rfl) _ (HCU.out _) ?_
         rintro e wz ⟨t, rfl, ht, hwz⟩
         subst hwz
         refine ⟨_, rfl, ?_⟩
         have HTT := hid ht
         clear ht
         refine hK.out _ _ (⟨HPD.out.c 0 (by simp) 5, HPD.out⟩) (fun hHeld => ?_)
         clear hK K
         (try simp only [puts])
         refine zEB (i := 5) (v := .agg #[.int .i64 2, .int .i64 0, .string t]) rfl (by kernel_rfl) (by kernel_rfl) (by kernel_rfl) (fun _ _ _ h => h) (zBY (by rfl) 29 _ (by rfl) #[(0, .int .i64 2), (2, .string t)] (by simp [Act.eval, Act.put]) _ (fun w => by kernel_rfl)) (by assumption) ?_
         (try simp only [puts])
         refine wpAnyH_ready (rs := [1, 6]) (by kernel_rfl) (by simp) ?_
         refine zAQ rfl (fun K hK => ?_) (zAQ rfl (fun K hK => ?_) AllReadyH.nil)
         . refine zBK (by rfl) ?_
           have cb : w8.drew.cell? ⟨b, 4, none⟩ = some (.slice p7 1 c7) := zAD HWD.out 4
           refine zAZ (.slice p7 1 c7) (by unfold execOp; go_simp) ?_
           clear cb
           refine hK.out _ _ (⟨HPD.out.c 0 (by simp) 5, HPD.out⟩) (fun hHeld => ?_)
           clear hK K
           (try simp only [puts])
           refine wpAnyH_ready (rs := [6]) (by kernel_rfl) (by simp) ?_
           refine zAQ rfl (fun K hK => ?_) AllReadyH.nil
           refine zBK (by rfl) ?_
           refine zG4 38 1 _ (by rfl) #[(0, .agg #[.int .i64 2, .int .i64 0, .string t])] (by simp [Act.eval]) [.int .i64 2, .int .i64 0, .string t] 29 (fun w => by kernel_rfl) ?_
           intro cc y6 hcc hbb2
           have HCC := hid hcc
           have HWD2 : Hid (y6.heap[b]? = some (.cells #[.int .i64 1, .string (tyN j), .int .i64 s0, .int .i64 20, (.slice p7 1 c7), .int .i64 0, .bool false] 66 (0, 0))) := (hbb2.block _ (zAE HWD.out)).trans HWD.out
           have HRD2 := hid (zCT HRD.out hbb2)
           have HPD2 := hid (HPD.out.next hbb2)
           clear hcc hbb2 HWD HRD HPD
           have HWD := HWD2
           have HRD := HRD2
           have HPD := HPD2
           clear HWD2 HRD2 HPD2
           refine hK.out _ _ (⟨HPD.out.c 0 (by simp) 5, HPD.out⟩) (fun hHeld => ?_)
           clear hK K
           (try simp only [puts])
           refine wpAnyH_ready (rs := [7]) (by kernel_rfl) (by simp) ?_
           refine zAQ rfl (fun K hK => ?_) AllReadyH.nil
           refine zBK (by rfl) ?_
           refine zDN _ _ (by rfl) w.heap.size (.slice p7 1 c7) 1 [.int .i64 1, .int .i64 k, .string ⟨#[]⟩] (by rfl) HRD.out HPD.out.bel.size cc [.int .i64 2, .int .i64 0, .string t] (by rfl) HCC.out rfl (by rfl) (by omega) ?_
           intro v9 w9 hr9 hg9
           have HW9 : Hid (w9.heap[b]? = some (.cells #[.int .i64 1, .string (tyN j), .int .i64 s0, .int .i64 20, (.slice p7 1 c7), .int .i64 0, .bool false] 66 (0, 0))) := (hg9.block _ (zAE HWD.out) (fun e => zA3 HRD.out HWD.out (show (66 : TypeId) ≠ 29 from by decide) e.symm)).trans HWD.out
           have HP9 : Hid (Hp w w9 [(w.heap.size, [.int .i64 kd, .int .i64 ty, .int .i64 lg, .int .i64 nn, .int .i64 dl, .string tx, .bool cl], 25), (w.heap.size + 1, [.int .i64 0, .string ⟨#[]⟩, .int .i64 0, .int .i64 0, .slice none 0 0, .int .i64 0, .bool false], 66)]) := HPD.out.grown hg9 (fun q hq => ⟨(zAL HRD.out hq).1, fun i hi => by
             rcases i with _ | _ | i
             . exact fun c => zA3 HRD.out (HPD.out.b 0 (by simp)) (show (25 : TypeId) ≠ 29 from by decide) (by rw [hq, ← c])
             . exact fun c => zA3 HRD.out (HPD.out.b 1 (by simp)) (show (66 : TypeId) ≠ 29 from by decide) (by rw [hq, ← c])
             . exact absurd hi (by simp)⟩)
           have HR9 := hid hr9
           clear hg9 hr9 HRD HWD HPD HCC
           refine hK.out _ _ (⟨HP9.out.c 0 (by simp) 5, HP9.out⟩) (fun hHeld => ?_)
           clear hK K
           (try simp only [puts])
           refine tkq (i := 8) (v := ?v5) rfl ?hy5 ?rest5; (case hy5 => intro w0 hSw; (try dsimp only at hSw); go_simp <;> (try (with_reducible rfl))); (try simp only [puts])
           refine wpAnyH_ready (rs := [9]) (by kernel_rfl) (by simp) ?_
           refine zAQ rfl (fun K hK => ?_) AllReadyH.nil
           obtain ⟨p9, c9, hv9⟩ := zBP HR9.out
           subst hv9
           refine zD6 (by rfl) 38 _ _ (by rfl) b 4 [.int .i64 1, .string (tyN j), .int .i64 s0, .int .i64 20, (.slice p7 1 c7), .int .i64 0, .bool false] 66 (.slice p9 (1 + 1) c9) [.slice p9 (1 + 1) c9] (by rfl) (by rfl) (by rfl) HW9.out (by simp) (by kernel_rfl) (by rfl) ?_
           intro w10 hm10 hf10
           have HW8 : Hid (w10.heap[b]? = some (.cells #[.int .i64 1, .string (tyN j), .int .i64 s0, .int .i64 20, (.slice p9 (1 + 1) c9), .int .i64 0, .bool false] 66 (0, 0))) := hm10
           have HP8 : Hid (Hp w w10 [(w.heap.size, [.int .i64 kd, .int .i64 ty, .int .i64 lg, .int .i64 nn, .int .i64 dl, .string tx, .bool cl], 25), (w.heap.size + 1, [.int .i64 0, .string ⟨#[]⟩, .int .i64 0, .int .i64 0, .slice none 0 0, .int .i64 0, .bool false], 66)]) := HP9.out.fr hf10 (by omega) (fun i hi => by rcases i with _ | _ | i; (show w.heap.size ≠ b; omega); (show w.heap.size + 1 ≠ b; omega); exact absurd hi (by simp))
           have HR8 := hid (zCI HR9.out (zA3 HR9.out HW9.out (show (66 : TypeId) ≠ 29 from by decide)) hf10)
           clear hm10 hf10 HW9 HP9 HR9
           refine hK.out _ _ (⟨HP8.out.c 0 (by simp) 5, HP8.out⟩) (fun hHeld => ?_)
           clear hK K
           (try simp only [puts])
           refine wpAnyH_done (by kernel_rfl) ?_ _
           have XO : Hid (w10.rangeAt b 0 [.int .i64 1, .string (tyN j), .int .i64 s0, .int .i64 20, (.slice p9 (1 + 1) c9), .int .i64 0, .bool false]) := zAJ HW8.out
           have HZ1 := hid (HP8.out.b 1 (by simp))
           have HBL := hid HP8.out.bel
           go_wp2_with (first
             | ((with_reducible show wpList _ _ _ (Oper.mk _ (.load 66 _) _ _ _ _ :: _) _ _); refine wpList_load_mid (by rfl) 66 _ (by rfl) b 0 (by rfl) [.int .i64 1, .string (tyN j), .int .i64 s0, .int .i64 20, (.slice p9 (1 + 1) c9), .int .i64 0, .bool false] _ XO.out Tryd.underlying66 rfl (by kernel_rfl) ?_)
             | ((with_reducible show wpList _ _ _ (Oper.mk _ (.store 66 _ _) _ _ _ _ :: _) _ _); refine zA5 66 (w.heap.size + 1) 0 [.int .i64 0, .string ⟨#[]⟩, .int .i64 0, .int .i64 0, .slice none 0 0, .int .i64 0, .bool false] 66 [.int .i64 1, .string (tyN j), .int .i64 s0, .int .i64 20, (.slice p9 (1 + 1) c9), .int .i64 0, .bool false] HZ1.out ?_; intro w11 hblk hfr; have HW11 := hid hblk; have HBE : Hid (Below w.heap.size w w11) := zAO HBL.out hfr (by omega); have HF11 := hid hfr; clear hblk hfr))
           exact zAU (w.heap.size + 1) [.int .i64 1, .string (tyN j), .int .i64 s0, .int .i64 20, (.slice p9 (1 + 1) c9), .int .i64 0, .bool false] 66 _ HW11.out rfl rfl (by rfl) Tryd.underlying66 rfl (by kernel_rfl) ⟨s0, t, _, HTT.out, rfl, HS0.out.1, HS0.out.2, by rw [show vls j k t = [⟨1, k, txt []⟩, ⟨2, 0, t⟩] from by unfold vls; rw [if_neg j2, if_pos j1]]; exact zDK (L := [⟨1, k, txt []⟩, ⟨2, 0, t⟩]) (zCI HR8.out (zA3 HR8.out HZ1.out (show (66 : TypeId) ≠ 29 from by decide)) HF11.out) (fun _ => zAT [.int .i64 1, .int .i64 k, .string (txt []), .int .i64 2, .int .i64 0, .string t]), HBE.out⟩
         . refine zBK (by rfl) ?_
           refine zG4 38 1 _ (by rfl) #[(0, .agg #[.int .i64 2, .int .i64 0, .string t])] (by simp [Act.eval]) [.int .i64 2, .int .i64 0, .string t] 29 (fun w => by kernel_rfl) ?_
           intro cc y5 hcc hbb2
           have HCC := hid hcc
           have HWD2 : Hid (y5.heap[b]? = some (.cells #[.int .i64 1, .string (tyN j), .int .i64 s0, .int .i64 20, (.slice p7 1 c7), .int .i64 0, .bool false] 66 (0, 0))) := (hbb2.block _ (zAE HWD.out)).trans HWD.out
           have HRD2 := hid (zCT HRD.out hbb2)
           have HPD2 := hid (HPD.out.next hbb2)
           clear hcc hbb2 HWD HRD HPD
           have HWD := HWD2
           have HRD := HRD2
           have HPD := HPD2
           clear HWD2 HRD2 HPD2
           refine hK.out _ _ (⟨HPD.out.c 0 (by simp) 5, HPD.out⟩) (fun hHeld => ?_)
           clear hK K
           (try simp only [puts])
           refine wpAnyH_ready (rs := [1]) (by kernel_rfl) (by simp) ?_
           refine zAQ rfl (fun K hK => ?_) AllReadyH.nil
           refine zBK (by rfl) ?_
           have cb : y5.cell? ⟨b, 4, none⟩ = some (.slice p7 1 c7) := zAD HWD.out 4
           refine zAZ (.slice p7 1 c7) (by unfold execOp; go_simp) ?_
           clear cb
           refine hK.out _ _ (⟨HPD.out.c 0 (by simp) 5, HPD.out⟩) (fun hHeld => ?_)
           clear hK K
           (try simp only [puts])
           refine wpAnyH_ready (rs := [7]) (by kernel_rfl) (by simp) ?_
           refine zAQ rfl (fun K hK => ?_) AllReadyH.nil
           refine zBK (by rfl) ?_
           refine zDN _ _ (by rfl) w.heap.size (.slice p7 1 c7) 1 [.int .i64 1, .int .i64 k, .string ⟨#[]⟩] (by rfl) HRD.out HPD.out.bel.size cc [.int .i64 2, .int .i64 0, .string t] (by rfl) HCC.out rfl (by rfl) (by omega) ?_
           intro v9 w9 hr9 hg9
           have HW9 : Hid (w9.heap[b]? = some (.cells #[.int .i64 1, .string (tyN j), .int .i64 s0, .int .i64 20, (.slice p7 1 c7), .int .i64 0, .bool false] 66 (0, 0))) := (hg9.block _ (zAE HWD.out) (fun e => zA3 HRD.out HWD.out (show (66 : TypeId) ≠ 29 from by decide) e.symm)).trans HWD.out
           have HP9 : Hid (Hp w w9 [(w.heap.size, [.int .i64 kd, .int .i64 ty, .int .i64 lg, .int .i64 nn, .int .i64 dl, .string tx, .bool cl], 25), (w.heap.size + 1, [.int .i64 0, .string ⟨#[]⟩, .int .i64 0, .int .i64 0, .slice none 0 0, .int .i64 0, .bool false], 66)]) := HPD.out.grown hg9 (fun q hq => ⟨(zAL HRD.out hq).1, fun i hi => by
             rcases i with _ | _ | i
             . exact fun c => zA3 HRD.out (HPD.out.b 0 (by simp)) (show (25 : TypeId) ≠ 29 from by decide) (by rw [hq, ← c])
             . exact fun c => zA3 HRD.out (HPD.out.b 1 (by simp)) (show (66 : TypeId) ≠ 29 from by decide) (by rw [hq, ← c])
             . exact absurd hi (by simp)⟩)
           have HR9 := hid hr9
           clear hg9 hr9 HRD HWD HPD HCC
           refine hK.out _ _ (⟨HP9.out.c 0 (by simp) 5, HP9.out⟩) (fun hHeld => ?_)
           clear hK K
           (try simp only [puts])
           refine tkq (i := 8) (v := ?v6) rfl ?hy6 ?rest6; (case hy6 => intro w0 hSw; (try dsimp only at hSw); go_simp <;> (try (with_reducible rfl))); (try simp only [puts])
           refine wpAnyH_ready (rs := [9]) (by kernel_rfl) (by simp) ?_
           refine zAQ rfl (fun K hK => ?_) AllReadyH.nil
           obtain ⟨p9, c9, hv9⟩ := zBP HR9.out
           subst hv9
           refine zD6 (by rfl) 38 _ _ (by rfl) b 4 [.int .i64 1, .string (tyN j), .int .i64 s0, .int .i64 20, (.slice p7 1 c7), .int .i64 0, .bool false] 66 (.slice p9 (1 + 1) c9) [.slice p9 (1 + 1) c9] (by rfl) (by rfl) (by rfl) HW9.out (by simp) (by kernel_rfl) (by rfl) ?_
           intro w10 hm10 hf10
           have HW8 : Hid (w10.heap[b]? = some (.cells #[.int .i64 1, .string (tyN j), .int .i64 s0, .int .i64 20, (.slice p9 (1 + 1) c9), .int .i64 0, .bool false] 66 (0, 0))) := hm10
           have HP8 : Hid (Hp w w10 [(w.heap.size, [.int .i64 kd, .int .i64 ty, .int .i64 lg, .int .i64 nn, .int .i64 dl, .string tx, .bool cl], 25), (w.heap.size + 1, [.int .i64 0, .string ⟨#[]⟩, .int .i64 0, .int .i64 0, .slice none 0 0, .int .i64 0, .bool false], 66)]) := HP9.out.fr hf10 (by omega) (fun i hi => by rcases i with _ | _ | i; (show w.heap.size ≠ b; omega); (show w.heap.size + 1 ≠ b; omega); exact absurd hi (by simp))
           have HR8 := hid (zCI HR9.out (zA3 HR9.out HW9.out (show (66 : TypeId) ≠ 29 from by decide)) hf10)
           clear hm10 hf10 HW9 HP9 HR9
           refine hK.out _ _ (⟨HP8.out.c 0 (by simp) 5, HP8.out⟩) (fun hHeld => ?_)
           clear hK K
           (try simp only [puts])
           refine wpAnyH_done (by kernel_rfl) ?_ _
           have XO : Hid (w10.rangeAt b 0 [.int .i64 1, .string (tyN j), .int .i64 s0, .int .i64 20, (.slice p9 (1 + 1) c9), .int .i64 0, .bool false]) := zAJ HW8.out
           have HZ1 := hid (HP8.out.b 1 (by simp))
           have HBL := hid HP8.out.bel
           go_wp2_with (first
             | ((with_reducible show wpList _ _ _ (Oper.mk _ (.load 66 _) _ _ _ _ :: _) _ _); refine wpList_load_mid (by rfl) 66 _ (by rfl) b 0 (by rfl) [.int .i64 1, .string (tyN j), .int .i64 s0, .int .i64 20, (.slice p9 (1 + 1) c9), .int .i64 0, .bool false] _ XO.out Tryd.underlying66 rfl (by kernel_rfl) ?_)
             | ((with_reducible show wpList _ _ _ (Oper.mk _ (.store 66 _ _) _ _ _ _ :: _) _ _); refine zA5 66 (w.heap.size + 1) 0 [.int .i64 0, .string ⟨#[]⟩, .int .i64 0, .int .i64 0, .slice none 0 0, .int .i64 0, .bool false] 66 [.int .i64 1, .string (tyN j), .int .i64 s0, .int .i64 20, (.slice p9 (1 + 1) c9), .int .i64 0, .bool false] HZ1.out ?_; intro w11 hblk hfr; have HW11 := hid hblk; have HBE : Hid (Below w.heap.size w w11) := zAO HBL.out hfr (by omega); have HF11 := hid hfr; clear hblk hfr))
           exact zAU (w.heap.size + 1) [.int .i64 1, .string (tyN j), .int .i64 s0, .int .i64 20, (.slice p9 (1 + 1) c9), .int .i64 0, .bool false] 66 _ HW11.out rfl rfl (by rfl) Tryd.underlying66 rfl (by kernel_rfl) ⟨s0, t, _, HTT.out, rfl, HS0.out.1, HS0.out.2, by rw [show vls j k t = [⟨1, k, txt []⟩, ⟨2, 0, t⟩] from by unfold vls; rw [if_neg j2, if_pos j1]]; exact zDK (L := [⟨1, k, txt []⟩, ⟨2, 0, t⟩]) (zCI HR8.out (zA3 HR8.out HZ1.out (show (66 : TypeId) ≠ 29 from by decide)) HF11.out) (fun _ => zAT [.int .i64 1, .int .i64 k, .string (txt []), .int .i64 2, .int .i64 0, .string t]), HBE.out⟩
     . have g3 : ((j : Int) == 1) = false := by simp; omega
       have g3c : (j = 1) = False := by simp [j1]
       have XO : Hid (w8.rangeAt b 0 [.int .i64 1, .string (tyN j), .int .i64 s0, .int .i64 20, (.slice p7 1 c7), .int .i64 0, .bool false]) := zAJ HW8.out
       have HZ1 := hid (HP8.out.b 1 (by simp))
       have HBL := hid HP8.out.bel
       go_wp2_with (first
         | ((with_reducible show wpList _ _ _ (Oper.mk _ (.load 66 _) _ _ _ _ :: _) _ _); refine wpList_load_mid (by rfl) 66 _ (by rfl) b 0 (by rfl) [.int .i64 1, .string (tyN j), .int .i64 s0, .int .i64 20, (.slice p7 1 c7), .int .i64 0, .bool false] _ XO.out Tryd.underlying66 rfl (by kernel_rfl) ?_)
         | ((with_reducible show wpList _ _ _ (Oper.mk _ (.store 66 _ _) _ _ _ _ :: _) _ _); refine zA5 66 (w.heap.size + 1) 0 [.int .i64 0, .string ⟨#[]⟩, .int .i64 0, .int .i64 0, .slice none 0 0, .int .i64 0, .bool false] 66 [.int .i64 1, .string (tyN j), .int .i64 s0, .int .i64 20, (.slice p7 1 c7), .int .i64 0, .bool false] HZ1.out ?_; intro w9 hblk hfr; have HW9 := hid hblk; have HBE : Hid (Below w.heap.size w w9) := zAO HBL.out hfr (by omega); have HF9 := hid hfr; clear hblk hfr))
       exact zAU (w.heap.size + 1) [.int .i64 1, .string (tyN j), .int .i64 s0, .int .i64 20, (.slice p7 1 c7), .int .i64 0, .bool false] 66 _ HW9.out rfl rfl (by rfl) Tryd.underlying66 rfl (by kernel_rfl) ⟨s0, txt [], _, by decide, rfl, HS0.out.1, HS0.out.2, by rw [show vls j k (txt []) = [⟨1, k, txt []⟩] from by unfold vls; rw [if_neg j2, if_neg j1]]; exact zDK (L := [⟨1, k, txt []⟩]) (zCI HR8.out (zA3 HR8.out HZ1.out (show (66 : TypeId) ≠ 29 from by decide)) HF9.out) (fun _ => zAT [.int .i64 1, .int .i64 k, .string (txt [])]), HBE.out⟩
end Go.Proofs.YtnlmknbhppdliaaDoor.Chk
