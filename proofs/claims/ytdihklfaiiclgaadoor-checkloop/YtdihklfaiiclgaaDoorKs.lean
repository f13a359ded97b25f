/-
  What comes of itself: CheckLoop.
-/
import Derived.Test.YtdihklfaiiclgaaDoorKp
import Derived.Test.YtdihklfaiiclgaaDoorDt
namespace Go.Proofs.YtdihklfaiiclgaaDoor.Chk
open Go.ChangeShapes Go.WideShapes Go.ChangeAt Go.RowKit Go.Maps
set_option linter.unusedVariables false
set_option linter.unusedSimpArgs false
set_option maxRecDepth 20000
theorem op_appT2 {P : Program} {o : Oper} {a : Act} {W : World} {K : Act → World → Prop} {Q : Exit → Act → World → Prop} (s x : Operand) (T : TypeId) (ho : o.op = .call { callee := .builtin .append, args := #[s, x], argTypes := #[T, T] }) (n : Nat) (τ : Nat → Prop) (e z bytes : Nat) (i0 : TypeInfo) (zv : Value) (hu : P.underlying T = some (.slice e)) (hi : P.info? e = some i0) (hz : i0.zero = some zv) (hz1 : i0.size = z) (hz2 : i0.bytes = bytes) (hzc : zv.cells.size = z) (hz0 : 0 < z) (hby : bytes ≤ 1000)
  (v : Value) (l : List (List Dat)) (hs : a.eval s = v) (hr : RwT W n τ e z v l) (hbase : n ≤ W.heap.size) (b : Nat) (us : List Value) (hx : a.eval x = .slice (some ⟨b, 0, none⟩) 2 2) (hb : W.heap[b]? = some (.cells us.toArray e (0, 0))) (hl : us.length = 2 * z) (h1 : us.all (·.oneCell') = true) (d1 d2 : List Dat) (hd : KT W n τ (d1 ++ d2) us) (het : ¬ τ e) (h10 : l.length ≤ 10) (m : Nat) (hm : l.length + 2 = m)
  (h : ∀ p' cap' W', RwT W' n τ e z (.slice p' m cap') (l ++ [d1, d2]) → W.grownBy W' v.ownBlock → ((Value.slice p' m cap').ownBlock = v.ownBlock ∨ (Value.slice p' m cap').ownBlock = some W.heap.size) → K (a.put o.dst (.slice p' m cap')) W') : Oper.wp P o a W K Q := by
 obtain ⟨xs, r1, r2⟩ := hr
 obtain ⟨v', w', q0, q1, q2, _, q4⟩ := run_append_own_at (P := P) W n T o.type e i0 zv z bytes hu hi hz hz1 hz2 hzc hz0 v l.length xs r1 ⟨b, 0, none⟩ 2 2 us (by omega) (fun j u hj => by rw [Addr.add_mid, cell_of_blk hb]; simpa using hj) (List.all_eq_true.1 h1) (by unfold maxLen; omega) (by have : (l.length + 2) * bytes ≤ 12 * 1000 := Nat.mul_le_mul (by omega) hby; omega) hbase
 unfold Oper.wp execOp
 simp only [ho, resolve, invoke, builtin, Sem.run_bind, Sem.run_pure, Result.andThen_ok, List.map_toArray, List.map_cons, List.map_nil, hs, hx, q0]
 have hrw : RwT w' n τ e z v' (l ++ [d1, d2]) := by
  refine ⟨xs ++ us, by simpa using q1, ?_⟩
  rw [List.flatten_append, show [d1, d2].flatten = d1 ++ d2 by simp]
  exact (r2.app hd).mono (Nat.le_refl _) fun i t _ hq ht => q2.block i ht.lt fun c => (own_TB r1 c.symm).1.ne ht (fun e9 => het (e9 ▸ hq)) rfl
 obtain ⟨p', cap', hv⟩ := hrw.shape
 rw [List.length_append, show [d1, d2].length = 2 from rfl, hm] at hv
 subst hv
 exact h p' cap' w' hrw q2 q4
theorem rd_pt {W' : World} {b6 : Nat} (a c : UInt8) (h : W'.heap[b6]? = some (.cells #[.string ⟨#[a]⟩, .string ⟨#[c]⟩, .int .i64 0, .slice none 0 0, .int .i64 0, .int .i64 0, .int .i64 0, .string ⟨#[]⟩, .string ⟨#[]⟩, .string ⟨#[]⟩, .int .i64 0, .int .i64 0, .int .i64 0, .string ⟨#[]⟩, .string ⟨#[]⟩, .string ⟨#[]⟩, .int .i64 0, .int .i64 0] 46 (0, 0))) : Rd W' (.row 46 18 ([(⟨txt [a], txt [c], cn0, 0, 0⟩ : Pt)].map encP)) (.slice (some ⟨b6, 0, none⟩) 1 1) := by
 have hc : RdL W' (encC cn0) [.int .i64 0, .slice none 0 0, .int .i64 0, .int .i64 0, .int .i64 0, .string ⟨#[]⟩, .string ⟨#[]⟩, .string ⟨#[]⟩, .int .i64 0, .int .i64 0, .int .i64 0, .string ⟨#[]⟩, .string ⟨#[]⟩, .string ⟨#[]⟩] := .cons (.lit _) (.cons (.nil _ _ none 0 (Nat.zero_le _)) (rdl_lits [.int .i64 0, .int .i64 0, .int .i64 0, .string ⟨#[]⟩, .string ⟨#[]⟩, .string ⟨#[]⟩, .int .i64 0, .int .i64 0, .int .i64 0, .string ⟨#[]⟩, .string ⟨#[]⟩, .string ⟨#[]⟩]))
 exact rd_blk (l := [(⟨txt [a], txt [c], cn0, 0, 0⟩ : Pt)].map encP) h (by simp) (by simp [maxLen]) (by
  show RdL W' (encP _ ++ []) _
  rw [List.append_nil]
  exact .cons (.lit _) (.cons (.lit _) (rdl_app hc (rdl_lits [.int .i64 0, .int .i64 0]))))
theorem kt_lp {W : World} {n b6 : Nat} (h : W.heap[b6]? = some (.cells #[.string ⟨#[120]⟩, .string ⟨#[99]⟩, .int .i64 0, .slice none 0 0, .int .i64 0, .int .i64 0, .int .i64 0, .string ⟨#[]⟩, .string ⟨#[]⟩, .string ⟨#[]⟩, .int .i64 0, .int .i64 0, .int .i64 0, .string ⟨#[]⟩, .string ⟨#[]⟩, .string ⟨#[]⟩, .int .i64 0, .int .i64 0] 46 (0, 0))) (hn : n ≤ b6) : KT W n isR (encR lpR) [.string ⟨#[108, 111, 111, 112]⟩, .slice (some ⟨b6, 0, none⟩) 1 1, .slice none 0 0, .slice none 0 0, .slice none 0 0, .string ⟨#[99]⟩, .slice none 0 0] := fun W' hW => by
  have h' : W'.heap[b6]? = some (.cells #[.string ⟨#[120]⟩, .string ⟨#[99]⟩, .int .i64 0, .slice none 0 0, .int .i64 0, .int .i64 0, .int .i64 0, .string ⟨#[]⟩, .string ⟨#[]⟩, .string ⟨#[]⟩, .int .i64 0, .int .i64 0, .int .i64 0, .string ⟨#[]⟩, .string ⟨#[]⟩, .string ⟨#[]⟩, .int .i64 0, .int .i64 0] 46 (0, 0)) := (hW b6 46 hn (by decide) ⟨_, h⟩).trans h
  exact .cons (.lit _) (.cons (rd_pt 120 99 h') (.cons (.nil _ _ none 0 (Nat.zero_le _)) (.cons (.nil _ _ none 0 (Nat.zero_le _)) (.cons (.nil _ _ none 0 (Nat.zero_le _)) (.cons (.lit _) (.cons (.nil _ _ none 0 (Nat.zero_le _)) (RdL.nil _)))))))
theorem tys_grown {w w' : World} {b n z : Nat} {τ : Nat → Prop} {v : Value} {l : List (List Dat)} (h : Tys w b) (hr : RwT w n τ 35 z v l) (hg : w.grownBy w' v.ownBlock) : Tys w' b := h.later (fun i o hi h1 h2 => (hg.block _ (blk_lt hi) (fun e => tys_ne h h1 h2 (by decide) (by decide) (hr.tb e.symm).1 rfl)).trans hi)
theorem kt_two {W : World} {n b34 b36 b40 b42 b44 b46 : Nat} (h1 : W.heap[b34]? = some (.cells #[.string ⟨#[120]⟩, .string ⟨#[99]⟩, .int .i64 0, .slice none 0 0, .int .i64 0, .int .i64 0, .int .i64 0, .string ⟨#[]⟩, .string ⟨#[]⟩, .string ⟨#[]⟩, .int .i64 0, .int .i64 0, .int .i64 0, .string ⟨#[]⟩, .string ⟨#[]⟩, .string ⟨#[]⟩, .int .i64 0, .int .i64 0] 46 (0, 0))) (h1b : n ≤ b34) (h2 : W.heap[b36]? = some (.cells #[.int .i64 1, .int .i64 1, .int .i64 1, .string ⟨#[]⟩, .string ⟨#[]⟩, .string ⟨#[]⟩] 42 (0, 0))) (h2b : n ≤ b36) (h3 : W.heap[b40]? = some (.cells #[.string ⟨#[120]⟩, .string ⟨#[97]⟩, .int .i64 0, .slice none 0 0, .int .i64 0, .int .i64 0, .int .i64 0, .string ⟨#[]⟩, .string ⟨#[]⟩, .string ⟨#[]⟩, .int .i64 0, .int .i64 0, .int .i64 0, .string ⟨#[]⟩, .string ⟨#[]⟩, .string ⟨#[]⟩, .int .i64 0, .int .i64 0] 46 (0, 0))) (h3b : n ≤ b40) (h4 : W.heap[b42]? = some (.cells #[.string ⟨#[121]⟩, .string ⟨#[101]⟩, .int .i64 0, .slice none 0 0, .int .i64 0, .int .i64 0, .int .i64 0, .string ⟨#[]⟩, .string ⟨#[]⟩, .string ⟨#[]⟩, .int .i64 0, .int .i64 0, .int .i64 0, .string ⟨#[]⟩, .string ⟨#[]⟩, .string ⟨#[]⟩, .int .i64 0, .int .i64 0] 46 (0, 0))) (h4b : n ≤ b42) (h5 : W.heap[b44]? = some (.cells #[.int .i64 1, .int .i64 0, .int .i64 1] 51 (0, 0))) (h5b : n ≤ b44) (h6 : W.heap[b46]? = some (.cells #[.string ⟨#[121]⟩, .slice (some ⟨b44, 0, none⟩) 1 1, .string ⟨#[120]⟩] 54 (0, 0))) (h6b : n ≤ b46) : KT W n isR (encR thR ++ encR bkR) [.string ⟨#[116, 104, 101, 114, 101]⟩, .slice (some ⟨b34, 0, none⟩) 1 1, .slice none 0 0, .slice none 0 0, .slice none 0 0, .string ⟨#[101]⟩, .slice (some ⟨b36, 0, none⟩) 1 1, .string ⟨#[98, 97, 99, 107]⟩, .slice (some ⟨b40, 0, none⟩) 1 1, .slice (some ⟨b42, 0, none⟩) 1 1, .slice none 0 0, .slice (some ⟨b46, 0, none⟩) 1 1, .string ⟨#[99]⟩, .slice none 0 0] := fun W' hW => by
  have g1 := (hW b34 46 h1b (by decide) ⟨_, h1⟩).trans h1
  have g2 := (hW b36 42 h2b (by decide) ⟨_, h2⟩).trans h2
  have g3 := (hW b40 46 h3b (by decide) ⟨_, h3⟩).trans h3
  have g4 := (hW b42 46 h4b (by decide) ⟨_, h4⟩).trans h4
  have g5 := (hW b44 51 h5b (by decide) ⟨_, h5⟩).trans h5
  have g6 := (hW b46 54 h6b (by decide) ⟨_, h6⟩).trans h6
  have x2 : Rd W' (.row 42 6 ([numO 1].map encO)) (.slice (some ⟨b36, 0, none⟩) 1 1) := rd_blk (l := [numO 1].map encO) g2 (by simp) (by simp [maxLen]) (rdl_lits [.int .i64 1, .int .i64 1, .int .i64 1, .string ⟨#[]⟩, .string ⟨#[]⟩, .string ⟨#[]⟩])
  have x5 : Rd W' (.row 51 3 ([(⟨1, 0, 1⟩ : Op3)].map encQ)) (.slice (some ⟨b44, 0, none⟩) 1 1) := rd_blk (l := [(⟨1, 0, 1⟩ : Op3)].map encQ) g5 (by simp) (by simp [maxLen]) (rdl_lits [.int .i64 1, .int .i64 0, .int .i64 1])
  have x6 : Rd W' (.row 54 3 ([(⟨txt [121], [⟨1, 0, 1⟩], txt [120]⟩ : Lk)].map encK)) (.slice (some ⟨b46, 0, none⟩) 1 1) := rd_blk (l := [(⟨txt [121], [⟨1, 0, 1⟩], txt [120]⟩ : Lk)].map encK) g6 (by simp) (by simp [maxLen]) (.cons (.lit _) (.cons x5 (.cons (.lit _) (RdL.nil _))))
  have a1 : RdL W' (encR thR) [.string ⟨#[116, 104, 101, 114, 101]⟩, .slice (some ⟨b34, 0, none⟩) 1 1, .slice none 0 0, .slice none 0 0, .slice none 0 0, .string ⟨#[101]⟩, .slice (some ⟨b36, 0, none⟩) 1 1] := .cons (.lit _) (.cons (rd_pt 120 99 g1) (.cons (.nil _ _ none 0 (Nat.zero_le _)) (.cons (.nil _ _ none 0 (Nat.zero_le _)) (.cons (.nil _ _ none 0 (Nat.zero_le _)) (.cons (.lit _) (.cons x2 (RdL.nil _)))))))
  have a2 : RdL W' (encR bkR) [.string ⟨#[98, 97, 99, 107]⟩, .slice (some ⟨b40, 0, none⟩) 1 1, .slice (some ⟨b42, 0, none⟩) 1 1, .slice none 0 0, .slice (some ⟨b46, 0, none⟩) 1 1, .string ⟨#[99]⟩, .slice none 0 0] := .cons (.lit _) (.cons (rd_pt 120 97 g3) (.cons (rd_pt 121 101 g4) (.cons (.nil _ _ none 0 (Nat.zero_le _)) (.cons x6 (.cons (.lit _) (.cons (.nil _ _ none 0 (Nat.zero_le _)) (RdL.nil _)))))))
  exact rdl_app a1 a2
theorem rw_cap {w : World} {n e z m c : Nat} {τ : Nat → Prop} {p : Option Addr} {l : List (List Dat)} (h : RwT w n τ e z (.slice p m c) l) (h0 : 0 < l.length) : m ≤ c := by
  obtain ⟨xs, h1, _⟩ := h
  rcases h1.2 with ⟨h3, h4⟩ | ⟨g, cap, cur, h3, h4, h5, h6, _⟩
  . omega
  . simp only [Value.slice.injEq] at h3; omega
set_option maxHeartbeats 64000000 in
theorem checkLoop_walk (l : List Plt) (hok : ∀ p, p ∈ l → p.ok) (lv : Value) (wh : Int) (hw1 : -9223372036854775808 ≤ wh) (hw2 : wh ≤ 9223372036854775807) (w : World) (hl : Rd w (.row 63 5 (l.map encPl)) lv) (htk : Tab w 0 kpl) (htr : Tab w 1 rll) :
  Calls Tryd.prog 4 #[lv, .int .i64 wh] w fun e w' => e = .returned (.bool true) ∧ Below w.heap.size w w' := by
 have HBK := hid (book_any l hok lv w hl)
 have HCK := hid (fun (rs : List Rl) (hz : ∀ x, x ∈ rs → Szr x) (tv rv : Value) (W : World) (hb : Below w.heap.size w W) (hT : Rd W (.row 71 2 (kts.map encY)) tv) (hR : Rd W (.row 35 7 (rs.map encR)) rv) => check_any kts rs hz tv rv W hT hR (tab_later htk hb) (tab_later htr hb))
 have HPK := hid (fun W => picked_any wh 2 W hw1 hw2 (by decide) (by decide))
 have hp2 := pkd_in wh (m := 2) (by decide)
 obtain ⟨R, hR⟩ : ∃ R, min l.length 4 + 1 = R := ⟨_, rfl⟩
 rw [hR] at HBK
 obtain ⟨m3, hm3⟩ : ∃ m, min R 3 = m := ⟨_, rfl⟩
 have HRR : Hid (1 ≤ R ∧ R ≤ 5 ∧ min R 3 = m3 ∧ min l.length 4 + 1 = R) := by show _ ∧ _; omega
 obtain ⟨lp, L, lc, rfl⟩ := rd_shape hl
 obtain ⟨ir, ir1, ir2, ir3, ir4⟩ := inR
 have HIR := hid (And.intro ir1 (And.intro ir2 (And.intro ir3 ir4)))
 clear hl htk htr hok hw1 hw2 hR hm3 ir1 ir2 ir3 ir4
 go_enter Tryd.func4, Tryd.ntmps4
 go_wp2_with (first
  | (go_at_call 5; refine HBK.out.mono ?_; rintro e w1 ⟨b, rp, rc, rfl, hb, hty, hr, hbl⟩; have HB0 := hid hb; have HTY := hid hty; have HRW := hid hr; have HBL := hid hbl; clear hb hty hr hbl)
  | ((with_reducible show wpList _ _ _ (Oper.mk _ (.store 26 _ _) _ _ _ _ :: _) _ _); refine wp_st (by rfl) 26 _ _ (by rfl) w1.heap.size 0 [.slice none 0 0, .slice none 0 0] 26 (.agg #[.slice (some ⟨b + 4, 0, none⟩) 5 5, .slice rp R rc]) [.slice (some ⟨b + 4, 0, none⟩) 5 5, .slice rp R rc] (by rfl) (by rfl) (by rfl) (heap_alloc_new _ _) (by simp) (by kernel_rfl) (by rfl) ?_; intro w2 hq1 hq2; have HU2 := hid hq1; have HF2 := hid hq2; have c0 : w2.cell? ⟨w1.heap.size, 0, none⟩ = some (.slice (some ⟨b + 4, 0, none⟩) 5 5) := (by rw [cell_of_blk HU2.out]; rfl); have c1 : w2.cell? ⟨w1.heap.size, 1, none⟩ = some (.slice rp R rc) := (by rw [cell_of_blk HU2.out]; rfl); clear hq1 hq2))
 obtain ⟨bx, hbx⟩ : ∃ x, w1.heap.size = x := ⟨_, rfl⟩
 have hA1 : Below w1.heap.size w1 (w1.alloc (.cells #[.slice none 0 0, .slice none 0 0] 26)) := (Below.refl _ _).alloc (Nat.le_refl _) _
 have hn12 : Below w1.heap.size w1 w2 := below_fr hA1 HF2.out (Nat.le_refl _)
 have HB2 := hid (below_trans HBL.out hn12 HBL.out.size)
 have HTY2 : Hid (Tys w2 b) := HTY.out.later (fun i o hi _ _ => (hn12.block _ (blk_lt hi)).trans hi)
 have HRW2 := hid (HRW.out.below hn12)
 have HBb : Hid (b + 4 < bx) := by rw [← hbx]; exact blk_lt HTY.out.2.2.2.2
 have HU2b := hid HU2.out
 rw [hbx] at HU2b ⊢
 clear hbx hA1 hn12 HF2 HBL HTY HRW HU2 HBK
 refine (HCK.out (pwBk l) (szr_bk l) _ _ w2 HB2.out HTY2.out.rd HRW2.out.rd).mono ?_
 rintro e w3 ⟨rfl, hb3⟩
 rw [bok_pw]
 have HU3 := hid ((hb3.block _ (blk_lt HU2b.out)).trans HU2b.out)
 have HB3 := hid (below_trans HB2.out hb3 HB2.out.size)
 have HTY3 : Hid (Tys w3 b) := HTY2.out.later (fun i o hi _ _ => (hb3.block _ (blk_lt hi)).trans hi)
 have HRW3 := hid (HRW2.out.below hb3)
 clear hb3 c0 c1 HTY2 HRW2 HU2b HB2
 have c1 : w3.cell? ⟨bx, 1, none⟩ = some (.slice rp R rc) := by rw [cell_of_blk HU3.out]; rfl
 have hcap : R ≤ rc := rw_cap HRW3.out (by have := HRR.out; rw [List.length_map, len_bk]; omega)
 go_upto_region 4 with fail
 go_cut [] from 11 to 18 (fun wx => wx.heap[bx]? = some (.cells #[.slice (some ⟨b + 4, 0, none⟩) 5 5, .slice rp m3 rc] 26 (0, 0)) ∧ Fr (fun i => i = bx) w3 wx)
 case first =>
  have c1 : w3.cell? ⟨bx, 1, none⟩ = some (.slice rp R rc) := by rw [cell_of_blk HU3.out]; rfl
  rcases (by have := HRR.out; omega : (R ≤ 3 ∧ R = m3) ∨ (3 < R ∧ 3 = m3)) with ⟨h3, hm⟩ | ⟨h3, hm⟩
  . subst hm
    have r1 : (R : Int) ≤ (rc : Int) := by omega
    have r3 : (0 : Int) ≤ (R : Int) := by omega
    have r0 : (R : Int) ≤ 3 := by omega
    clear h3
    go_wp2_with (((with_reducible show wpList _ _ _ (Oper.mk _ (.store 24 _ _) _ _ _ _ :: _) _ _); refine wp_st (by rfl) 24 _ _ (by rfl) bx 1 [.slice (some ⟨b + 4, 0, none⟩) 5 5, .slice rp R rc] 26 (.slice rp R rc) [.slice rp R rc] (by rfl) (by rfl) (by rfl) HU3.out (by simp) (by kernel_rfl) (by rfl) ?_; intro w4 hq1 hq2; have HU4 := hid hq1; have HF4 := hid hq2; clear hq1 hq2))
    go_meet
    exact ⟨HU4.out, HF4.out⟩
  . subst hm
    have r1 : (3 : Int) ≤ (rc : Int) := by omega
    have r0 : ¬ (R : Int) ≤ 3 := by omega
    clear h3
    go_wp2_with (((with_reducible show wpList _ _ _ (Oper.mk _ (.store 24 _ _) _ _ _ _ :: _) _ _); refine wp_st (by rfl) 24 _ _ (by rfl) bx 1 [.slice (some ⟨b + 4, 0, none⟩) 5 5, .slice rp R rc] 26 (.slice rp 3 rc) [.slice rp 3 rc] (by rfl) (by rfl) (by rfl) HU3.out (by simp) (by kernel_rfl) (by rfl) ?_; intro w4 hq1 hq2; have HU4 := hid hq1; have HF4 := hid hq2; clear hq1 hq2))
    go_meet
    exact ⟨HU4.out, HF4.out⟩
 case rest =>
  obtain ⟨hu4, hf4⟩ := hcut
  obtain ⟨wr, hwr⟩ : ∃ x, x = wc := ⟨_, rfl⟩
  subst hwr
  have hk3 : m3 ≤ R := by have := HRR.out; omega
  have hF3 : (fst3 l) = (pwBk l).take m3 := by unfold fst3; rw [HRR.out.2.2.2, HRR.out.2.2.1]
  have HR4 : Hid (RwT wr (b + 5) isR 35 7 (.slice rp m3 rc) ((fst3 l).map encR)) := by
    show RwT _ _ _ _ _ _ _
    rw [hF3, List.map_take]
    exact (HRW3.out.set hf4 ⟨_, HU3.out⟩ (by decide) (by decide)).take hk3 (fun d hd => by obtain ⟨r, _, rfl⟩ := List.mem_map.1 hd; exact lenR r) (by have := HRR.out; omega)
  have HTY4 : Hid (Tys wr b) := HTY3.out.later (fun i o hi _ hb2 => (hf4.block _ (blk_lt hi) (by have := HBb.out; show i ≠ bx; omega)).trans hi)
  have HB4 : Hid (Below w.heap.size w wr) := below_fr HB3.out hf4 (by have := HBb.out; have := HB0.out; omega)
  have HU4 := hid hu4
  have HN4 : Hid (b + 5 ≤ wr.heap.size) := by have h8 := blk_lt hu4; have := HBb.out; show _ ≤ _; omega
  have HLW : Hid (((fst3 l).map encR).length ≤ 10) := by show _ ≤ 10; rw [List.length_map, len_fst3]; omega
  have hlen : ((fst3 l).map encR).length = m3 := by rw [List.length_map, len_fst3, HRR.out.2.2.2, HRR.out.2.2.1]
  have HLW1 : Hid (((fst3 l).map encR).length + 1 = m3 + 1) := by show _ + 1 = _; rw [hlen]
  have HLW2 : Hid (((fst3 l).map encR).length + 2 = m3 + 2) := by show _ + 2 = _; rw [hlen]
  have c1 : wr.cell? ⟨bx, 1, none⟩ = some (.slice rp m3 rc) := by rw [cell_of_blk HU4.out]; rfl
  clear hu4 hf4 hk3 hF3 HRW3 HTY3 HB3 HU3 hcap hlen
  by_cases hp0 : pkd wh 2 = 0
  . rw [hp0] at HPK
    clear hp2 hp0
    go_wp2_with (first
     | (go_at_call 6; refine (HPK.out _).mono ?_; rintro e wr ⟨rfl, rfl⟩)
     | ((with_reducible show wpList _ _ _ (Oper.mk (some 24) _ _ _ _ _ :: _) _ _); refine wp_bdq (by rfl) 46 _ (by rfl) #[(0, .string ⟨#[120]⟩), (1, .string ⟨#[99]⟩)] (by simp [Act.eval, Act.put]) (.agg #[.string ⟨#[120]⟩, .string ⟨#[99]⟩, .int .i64 0, .slice none 0 0, .int .i64 0, .int .i64 0, .int .i64 0, .string ⟨#[]⟩, .string ⟨#[]⟩, .string ⟨#[]⟩, .int .i64 0, .int .i64 0, .int .i64 0, .string ⟨#[]⟩, .string ⟨#[]⟩, .string ⟨#[]⟩, .int .i64 0, .int .i64 0]) (fun w => by kernel_rfl) ?_)
     | ((with_reducible show wpList _ _ _ (Oper.mk (some 25) _ _ _ _ _ :: _) _ _); refine wp_bsB (by rfl) 28 1 _ (by rfl) #[(0, .agg #[.string ⟨#[120]⟩, .string ⟨#[99]⟩, .int .i64 0, .slice none 0 0, .int .i64 0, .int .i64 0, .int .i64 0, .string ⟨#[]⟩, .string ⟨#[]⟩, .string ⟨#[]⟩, .int .i64 0, .int .i64 0, .int .i64 0, .string ⟨#[]⟩, .string ⟨#[]⟩, .string ⟨#[]⟩, .int .i64 0, .int .i64 0])] (by simp [Act.eval, Act.put]) [.string ⟨#[120]⟩, .string ⟨#[99]⟩, .int .i64 0, .slice none 0 0, .int .i64 0, .int .i64 0, .int .i64 0, .string ⟨#[]⟩, .string ⟨#[]⟩, .string ⟨#[]⟩, .int .i64 0, .int .i64 0, .int .i64 0, .string ⟨#[]⟩, .string ⟨#[]⟩, .string ⟨#[]⟩, .int .i64 0, .int .i64 0] 46 (fun w => by kernel_rfl) ?_; intro b6 w5 hq1 hq0 hq2; have HP6 := hid hq1; have HB6 : Hid (b + 5 ≤ b6) := Nat.le_trans HN4.out hq0; have HR5 := hid (HR4.out.below hq2); have HU5 := hid ((hq2.block _ (blk_lt HU4.out)).trans HU4.out); have HTY5 : Hid (Tys w5 b) := HTY4.out.later (fun i o hi _ _ => (hq2.block _ (blk_lt hi)).trans hi); have HBW5 := hid (below_trans HB4.out hq2 HB4.out.size); have HN5 : Hid (b + 5 ≤ w5.heap.size) := Nat.le_trans HN4.out hq2.size; clear hq1 hq0 hq2)
     | ((with_reducible show wpList _ _ _ (Oper.mk (some 26) _ _ _ _ _ :: _) _ _); refine wp_bdq (by rfl) 33 _ (by rfl) #[(0, .string ⟨#[99]⟩)] (by simp [Act.eval, Act.put]) (.agg #[.string ⟨#[99]⟩, .slice none 0 0]) (fun w => by kernel_rfl) ?_)
     | ((with_reducible show wpList _ _ _ (Oper.mk (some 27) _ _ _ _ _ :: _) _ _); refine wp_bdq (by rfl) 35 _ (by rfl) #[(0, .string ⟨#[108, 111, 111, 112]⟩), (1, .slice (some ⟨b6, 0, none⟩) 1 1), (5, .agg #[.string ⟨#[99]⟩, .slice none 0 0])] (by simp [Act.eval, Act.put]) (.agg #[.string ⟨#[108, 111, 111, 112]⟩, .slice (some ⟨b6, 0, none⟩) 1 1, .slice none 0 0, .slice none 0 0, .slice none 0 0, .string ⟨#[99]⟩, .slice none 0 0]) (fun w => by kernel_rfl) ?_)
     | ((with_reducible show wpList _ _ _ (Oper.mk (some 28) _ _ _ _ _ :: _) _ _); refine wp_bsB (by rfl) 24 1 _ (by rfl) #[(0, .agg #[.string ⟨#[108, 111, 111, 112]⟩, .slice (some ⟨b6, 0, none⟩) 1 1, .slice none 0 0, .slice none 0 0, .slice none 0 0, .string ⟨#[99]⟩, .slice none 0 0])] (by simp [Act.eval, Act.put]) [.string ⟨#[108, 111, 111, 112]⟩, .slice (some ⟨b6, 0, none⟩) 1 1, .slice none 0 0, .slice none 0 0, .slice none 0 0, .string ⟨#[99]⟩, .slice none 0 0] 35 (fun w => by kernel_rfl) ?_; intro b8 w6 hq1 hq0 hq2; have HB8 := hid hq1; have HP8 := hid ((hq2.block _ (blk_lt HP6.out)).trans HP6.out); have HR6 := hid (HR5.out.below hq2); have HU6 := hid ((hq2.block _ (blk_lt HU5.out)).trans HU5.out); have HTY6 : Hid (Tys w6 b) := HTY5.out.later (fun i o hi _ _ => (hq2.block _ (blk_lt hi)).trans hi); have HBW6 := hid (below_trans HBW5.out hq2 HBW5.out.size); have HN6 : Hid (b + 5 ≤ w6.heap.size) := Nat.le_trans HN5.out hq2.size; clear hq1 hq0 hq2)
     | ((with_reducible show wpList _ _ _ (Oper.mk (some 29) _ _ _ _ _ :: _) _ _); refine wp_appT (by rfl) _ _ 24 (by rfl) (b + 5) isR 35 7 152 ir _ Tryd.underlying24 HIR.out.1 HIR.out.2.1 HIR.out.2.2.1 HIR.out.2.2.2 rfl (by omega) (by decide) (.slice rp m3 rc) ((fst3 l).map encR) (by rfl) HR6.out HN6.out b8 [.string ⟨#[108, 111, 111, 112]⟩, .slice (some ⟨b6, 0, none⟩) 1 1, .slice none 0 0, .slice none 0 0, .slice none 0 0, .string ⟨#[99]⟩, .slice none 0 0] (by rfl) HB8.out (by rfl) (by rfl) (encR lpR) (kt_lp HP8.out HB6.out) (by decide) HLW.out (m3 + 1) HLW1.out ?_; intro rp5 rc5 w7 hq1 hq2 hq3; have HR7 := hid hq1; have HU7 := hid ((hq2.block _ (blk_lt HU6.out) (fun e9 => (HR6.out.tb e9.symm).1.ne ⟨_, HU6.out⟩ (by decide) rfl)).trans HU6.out); have HTY7 := hid (tys_grown HTY6.out HR6.out hq2); have HB7 := hid (HBW6.out.grown hq2 HBW6.out.size (fun i hi => by have h8 := (HR6.out.tb hi).2; have h9 := HB0.out; omega)); clear hq1 hq2 hq3)
     | ((with_reducible show wpList _ _ _ (Oper.mk _ (.store 24 _ _) _ _ _ _ :: _) _ _); refine wp_st (by rfl) 24 _ _ (by rfl) bx 1 [.slice (some ⟨b + 4, 0, none⟩) 5 5, .slice rp m3 rc] 26 (.slice rp5 (m3 + 1) rc5) [.slice rp5 (m3 + 1) rc5] (by rfl) (by rfl) (by rfl) HU7.out (by simp) (by kernel_rfl) (by rfl) ?_; intro w8 hq1 hq2; have HU8 := hid hq1; have HR8 := hid (HR7.out.set hq2 ⟨_, HU7.out⟩ (by decide) (by decide)); have HTY8 : Hid (Tys w8 b) := HTY7.out.later (fun i o hi _ hb2 => (hq2.block _ (blk_lt hi) (by have := HBb.out; show i ≠ bx; omega)).trans hi); have HB8' : Hid (Below w.heap.size w w8) := below_fr HB7.out hq2 (by have := HBb.out; have := HB0.out; omega); have c0 : w8.cell? ⟨bx, 0, none⟩ = some (.slice (some ⟨b + 4, 0, none⟩) 5 5) := (by rw [cell_of_blk HU8.out]; rfl); have c1 : w8.cell? ⟨bx, 1, none⟩ = some (.slice rp5 (m3 + 1) rc5) := (by rw [cell_of_blk HU8.out]; rfl); clear hq1 hq2))
    refine (HCK.out (fst3 l ++ [lpR]) (szr_loop l _ (.inl rfl)) _ _ w8 HB8'.out HTY8.out.rd (by rw [List.map_append]; exact HR8.out.rd)).mono ?_
    rintro e w9 ⟨rfl, hb9⟩
    rw [bok_loop l _ (.inl rfl)]
    have HB9 := hid (below_trans HB8'.out hb9 HB8'.out.size)
    clear hb9 c0 c1
    go_wp2_with fail
    go_ret
    exact ⟨ret_bool (by simp), HB9.out⟩
  . obtain ⟨pk, hpk⟩ : ∃ x, pkd wh 2 = x := ⟨_, rfl⟩
    rw [hpk] at HPK hp0
    have g0 : (pk == 0) = false := by simpa using hp0
    clear hp2 hp0 hpk
    go_upto_region 7 with (go_at_call 6; refine (HPK.out _).mono ?_; rintro e wr ⟨rfl, rfl⟩)
    refine wp_region_two (by kernel_rfl) (fun i w9 v => ([(fun w9 v => v = .pointer (some ⟨bx, 1, none⟩)), (fun w9 v => v = .slice rp m3 rc), (fun w9 v => v = .agg #[.string ⟨#[120]⟩, .string ⟨#[99]⟩, .int .i64 0, .slice none 0 0, .int .i64 0, .int .i64 0, .int .i64 0, .string ⟨#[]⟩, .string ⟨#[]⟩, .string ⟨#[]⟩, .int .i64 0, .int .i64 0, .int .i64 0, .string ⟨#[]⟩, .string ⟨#[]⟩, .string ⟨#[]⟩, .int .i64 0, .int .i64 0]), (fun w9 v => ∃ (b34 : Nat), v = .slice (some ⟨b34, 0, none⟩) 1 1 ∧ w9.heap[b34]? = some (.cells #[.string ⟨#[120]⟩, .string ⟨#[99]⟩, .int .i64 0, .slice none 0 0, .int .i64 0, .int .i64 0, .int .i64 0, .string ⟨#[]⟩, .string ⟨#[]⟩, .string ⟨#[]⟩, .int .i64 0, .int .i64 0, .int .i64 0, .string ⟨#[]⟩, .string ⟨#[]⟩, .string ⟨#[]⟩, .int .i64 0, .int .i64 0] 46 (0, 0)) ∧ b + 5 ≤ b34), (fun w9 v => v = opV (numO 1)), (fun w9 v => ∃ (b36 : Nat), v = .slice (some ⟨b36, 0, none⟩) 1 1 ∧ w9.heap[b36]? = some (.cells #[.int .i64 1, .int .i64 1, .int .i64 1, .string ⟨#[]⟩, .string ⟨#[]⟩, .string ⟨#[]⟩] 42 (0, 0)) ∧ b + 5 ≤ b36), (fun w9 v => ∃ (b36 : Nat), v = .agg #[.string ⟨#[101]⟩, .slice (some ⟨b36, 0, none⟩) 1 1] ∧ w9.heap[b36]? = some (.cells #[.int .i64 1, .int .i64 1, .int .i64 1, .string ⟨#[]⟩, .string ⟨#[]⟩, .string ⟨#[]⟩] 42 (0, 0)) ∧ b + 5 ≤ b36), (fun w9 v => ∃ (b34 b36 : Nat), v = .agg #[.string ⟨#[116, 104, 101, 114, 101]⟩, .slice (some ⟨b34, 0, none⟩) 1 1, .slice none 0 0, .slice none 0 0, .slice none 0 0, .string ⟨#[101]⟩, .slice (some ⟨b36, 0, none⟩) 1 1] ∧ w9.heap[b34]? = some (.cells #[.string ⟨#[120]⟩, .string ⟨#[99]⟩, .int .i64 0, .slice none 0 0, .int .i64 0, .int .i64 0, .int .i64 0, .string ⟨#[]⟩, .string ⟨#[]⟩, .string ⟨#[]⟩, .int .i64 0, .int .i64 0, .int .i64 0, .string ⟨#[]⟩, .string ⟨#[]⟩, .string ⟨#[]⟩, .int .i64 0, .int .i64 0] 46 (0, 0)) ∧ b + 5 ≤ b34 ∧ w9.heap[b36]? = some (.cells #[.int .i64 1, .int .i64 1, .int .i64 1, .string ⟨#[]⟩, .string ⟨#[]⟩, .string ⟨#[]⟩] 42 (0, 0)) ∧ b + 5 ≤ b36), (fun w9 v => v = .agg #[.string ⟨#[120]⟩, .string ⟨#[97]⟩, .int .i64 0, .slice none 0 0, .int .i64 0, .int .i64 0, .int .i64 0, .string ⟨#[]⟩, .string ⟨#[]⟩, .string ⟨#[]⟩, .int .i64 0, .int .i64 0, .int .i64 0, .string ⟨#[]⟩, .string ⟨#[]⟩, .string ⟨#[]⟩, .int .i64 0, .int .i64 0]), (fun w9 v => ∃ (b40 : Nat), v = .slice (some ⟨b40, 0, none⟩) 1 1 ∧ w9.heap[b40]? = some (.cells #[.string ⟨#[120]⟩, .string ⟨#[97]⟩, .int .i64 0, .slice none 0 0, .int .i64 0, .int .i64 0, .int .i64 0, .string ⟨#[]⟩, .string ⟨#[]⟩, .string ⟨#[]⟩, .int .i64 0, .int .i64 0, .int .i64 0, .string ⟨#[]⟩, .string ⟨#[]⟩, .string ⟨#[]⟩, .int .i64 0, .int .i64 0] 46 (0, 0)) ∧ b + 5 ≤ b40), (fun w9 v => v = .agg #[.string ⟨#[121]⟩, .string ⟨#[101]⟩, .int .i64 0, .slice none 0 0, .int .i64 0, .int .i64 0, .int .i64 0, .string ⟨#[]⟩, .string ⟨#[]⟩, .string ⟨#[]⟩, .int .i64 0, .int .i64 0, .int .i64 0, .string ⟨#[]⟩, .string ⟨#[]⟩, .string ⟨#[]⟩, .int .i64 0, .int .i64 0]), (fun w9 v => ∃ (b42 : Nat), v = .slice (some ⟨b42, 0, none⟩) 1 1 ∧ w9.heap[b42]? = some (.cells #[.string ⟨#[121]⟩, .string ⟨#[101]⟩, .int .i64 0, .slice none 0 0, .int .i64 0, .int .i64 0, .int .i64 0, .string ⟨#[]⟩, .string ⟨#[]⟩, .string ⟨#[]⟩, .int .i64 0, .int .i64 0, .int .i64 0, .string ⟨#[]⟩, .string ⟨#[]⟩, .string ⟨#[]⟩, .int .i64 0, .int .i64 0] 46 (0, 0)) ∧ b + 5 ≤ b42), (fun w9 v => v = .agg #[.int .i64 1, .int .i64 0, .int .i64 1]), (fun w9 v => ∃ (b44 : Nat), v = .slice (some ⟨b44, 0, none⟩) 1 1 ∧ w9.heap[b44]? = some (.cells #[.int .i64 1, .int .i64 0, .int .i64 1] 51 (0, 0)) ∧ b + 5 ≤ b44), (fun w9 v => ∃ (b44 : Nat), v = .agg #[.string ⟨#[121]⟩, .slice (some ⟨b44, 0, none⟩) 1 1, .string ⟨#[120]⟩] ∧ w9.heap[b44]? = some (.cells #[.int .i64 1, .int .i64 0, .int .i64 1] 51 (0, 0)) ∧ b + 5 ≤ b44), (fun w9 v => ∃ (b44 b46 : Nat), v = .slice (some ⟨b46, 0, none⟩) 1 1 ∧ w9.heap[b44]? = some (.cells #[.int .i64 1, .int .i64 0, .int .i64 1] 51 (0, 0)) ∧ b + 5 ≤ b44 ∧ w9.heap[b46]? = some (.cells #[.string ⟨#[121]⟩, .slice (some ⟨b44, 0, none⟩) 1 1, .string ⟨#[120]⟩] 54 (0, 0)) ∧ b + 5 ≤ b46), (fun w9 v => v = .agg #[.string ⟨#[99]⟩, .slice none 0 0]), (fun w9 v => ∃ (b40 b42 b44 b46 : Nat), v = .agg #[.string ⟨#[98, 97, 99, 107]⟩, .slice (some ⟨b40, 0, none⟩) 1 1, .slice (some ⟨b42, 0, none⟩) 1 1, .slice none 0 0, .slice (some ⟨b46, 0, none⟩) 1 1, .string ⟨#[99]⟩, .slice none 0 0] ∧ w9.heap[b40]? = some (.cells #[.string ⟨#[120]⟩, .string ⟨#[97]⟩, .int .i64 0, .slice none 0 0, .int .i64 0, .int .i64 0, .int .i64 0, .string ⟨#[]⟩, .string ⟨#[]⟩, .string ⟨#[]⟩, .int .i64 0, .int .i64 0, .int .i64 0, .string ⟨#[]⟩, .string ⟨#[]⟩, .string ⟨#[]⟩, .int .i64 0, .int .i64 0] 46 (0, 0)) ∧ b + 5 ≤ b40 ∧ w9.heap[b42]? = some (.cells #[.string ⟨#[121]⟩, .string ⟨#[101]⟩, .int .i64 0, .slice none 0 0, .int .i64 0, .int .i64 0, .int .i64 0, .string ⟨#[]⟩, .string ⟨#[]⟩, .string ⟨#[]⟩, .int .i64 0, .int .i64 0, .int .i64 0, .string ⟨#[]⟩, .string ⟨#[]⟩, .string ⟨#[]⟩, .int .i64 0, .int .i64 0] 46 (0, 0)) ∧ b + 5 ≤ b42 ∧ w9.heap[b44]? = some (.cells #[.int .i64 1, .int .i64 0, .int .i64 1] 51 (0, 0)) ∧ b + 5 ≤ b44 ∧ w9.heap[b46]? = some (.cells #[.string ⟨#[121]⟩, .slice (some ⟨b44, 0, none⟩) 1 1, .string ⟨#[120]⟩] 54 (0, 0)) ∧ b + 5 ≤ b46), (fun w9 v => ∃ (b34 b36 b40 b42 b44 b46 b49 : Nat), v = .slice (some ⟨b49, 0, none⟩) 2 2 ∧ w9.heap[b49]? = some (.cells #[.string ⟨#[116, 104, 101, 114, 101]⟩, .slice (some ⟨b34, 0, none⟩) 1 1, .slice none 0 0, .slice none 0 0, .slice none 0 0, .string ⟨#[101]⟩, .slice (some ⟨b36, 0, none⟩) 1 1, .string ⟨#[98, 97, 99, 107]⟩, .slice (some ⟨b40, 0, none⟩) 1 1, .slice (some ⟨b42, 0, none⟩) 1 1, .slice none 0 0, .slice (some ⟨b46, 0, none⟩) 1 1, .string ⟨#[99]⟩, .slice none 0 0] 35 (0, 0)) ∧ w9.heap[b34]? = some (.cells #[.string ⟨#[120]⟩, .string ⟨#[99]⟩, .int .i64 0, .slice none 0 0, .int .i64 0, .int .i64 0, .int .i64 0, .string ⟨#[]⟩, .string ⟨#[]⟩, .string ⟨#[]⟩, .int .i64 0, .int .i64 0, .int .i64 0, .string ⟨#[]⟩, .string ⟨#[]⟩, .string ⟨#[]⟩, .int .i64 0, .int .i64 0] 46 (0, 0)) ∧ b + 5 ≤ b34 ∧ w9.heap[b36]? = some (.cells #[.int .i64 1, .int .i64 1, .int .i64 1, .string ⟨#[]⟩, .string ⟨#[]⟩, .string ⟨#[]⟩] 42 (0, 0)) ∧ b + 5 ≤ b36 ∧ w9.heap[b40]? = some (.cells #[.string ⟨#[120]⟩, .string ⟨#[97]⟩, .int .i64 0, .slice none 0 0, .int .i64 0, .int .i64 0, .int .i64 0, .string ⟨#[]⟩, .string ⟨#[]⟩, .string ⟨#[]⟩, .int .i64 0, .int .i64 0, .int .i64 0, .string ⟨#[]⟩, .string ⟨#[]⟩, .string ⟨#[]⟩, .int .i64 0, .int .i64 0] 46 (0, 0)) ∧ b + 5 ≤ b40 ∧ w9.heap[b42]? = some (.cells #[.string ⟨#[121]⟩, .string ⟨#[101]⟩, .int .i64 0, .slice none 0 0, .int .i64 0, .int .i64 0, .int .i64 0, .string ⟨#[]⟩, .string ⟨#[]⟩, .string ⟨#[]⟩, .int .i64 0, .int .i64 0, .int .i64 0, .string ⟨#[]⟩, .string ⟨#[]⟩, .string ⟨#[]⟩, .int .i64 0, .int .i64 0] 46 (0, 0)) ∧ b + 5 ≤ b42 ∧ w9.heap[b44]? = some (.cells #[.int .i64 1, .int .i64 0, .int .i64 1] 51 (0, 0)) ∧ b + 5 ≤ b44 ∧ w9.heap[b46]? = some (.cells #[.string ⟨#[121]⟩, .slice (some ⟨b44, 0, none⟩) 1 1, .string ⟨#[120]⟩] 54 (0, 0)) ∧ b + 5 ≤ b46), (fun w9 v => True), (fun w9 v => v = .pointer (some ⟨bx, 1, none⟩))] : List (World → Value → Prop)).getD i (fun _ _ => True) w9 v) (fun W => Below wr.heap.size wr W) 19 21 (fun w9 v => ∃ (p' : Option Addr) (c' : Nat) (Wp : World), v = .slice p' (m3 + 2) c' ∧ Below wr.heap.size wr Wp ∧ Wp.grownBy w9 (Value.slice rp m3 rc).ownBlock ∧ RwT w9 (b + 5) isR 35 7 (.slice p' (m3 + 2) c') ((fst3 l).map encR ++ [encR thR, encR bkR])) 55 rfl rfl (by decide) [some 31, some 32, some 33, some 34, some 35, some 36, some 37, some 38, some 39, some 40, some 41, some 42, some 43, some 44, some 45, some 46, some 47, some 48, some 49, some 50, some 51] (by kernel_rfl) 24 (.tmp 51) (.tmp 50) (by rfl) (by rfl) (by kernel_rfl) (by kernel_rfl) (by kernel_rfl) (fun W W' => Below W.heap.size W W') ?hmon ?hpi (Below.drew (Below.refl _ _)) (AllOps.cons ?o0 (AllOps.cons ?o1 (AllOps.cons ?o2 (AllOps.cons ?o3 (AllOps.cons ?o4 (AllOps.cons ?o5 (AllOps.cons ?o6 (AllOps.cons ?o7 (AllOps.cons ?o8 (AllOps.cons ?o9 (AllOps.cons ?o10 (AllOps.cons ?o11 (AllOps.cons ?o12 (AllOps.cons ?o13 (AllOps.cons ?o14 (AllOps.cons ?o15 (AllOps.cons ?o16 (AllOps.cons ?o17 (AllOps.cons ?o18 (AllOps.cons ?o19 (AllOps.cons ?o20 (AllOps.cons ?o21 AllOps.nil)))))))))))))))))))))) ?hS ?hend
    case hmon =>
     intro q W W' v hb h
     rcases q with _ | _ | _ | _ | _ | _ | _ | _ | _ | _ | _ | _ | _ | _ | _ | _ | _ | _ | _ | _ | _ | q
     . exact h
     . exact h
     . exact h
     . obtain ⟨b34, e, h0, h0b⟩ := h; exact ⟨b34, e, (hb.block _ (blk_lt h0)).trans h0, h0b⟩
     . exact h
     . obtain ⟨b36, e, h0, h0b⟩ := h; exact ⟨b36, e, (hb.block _ (blk_lt h0)).trans h0, h0b⟩
     . obtain ⟨b36, e, h0, h0b⟩ := h; exact ⟨b36, e, (hb.block _ (blk_lt h0)).trans h0, h0b⟩
     . obtain ⟨b34, b36, e, h0, h0b, h1, h1b⟩ := h; exact ⟨b34, b36, e, (hb.block _ (blk_lt h0)).trans h0, h0b, (hb.block _ (blk_lt h1)).trans h1, h1b⟩
     . exact h
     . obtain ⟨b40, e, h0, h0b⟩ := h; exact ⟨b40, e, (hb.block _ (blk_lt h0)).trans h0, h0b⟩
     . exact h
     . obtain ⟨b42, e, h0, h0b⟩ := h; exact ⟨b42, e, (hb.block _ (blk_lt h0)).trans h0, h0b⟩
     . exact h
     . obtain ⟨b44, e, h0, h0b⟩ := h; exact ⟨b44, e, (hb.block _ (blk_lt h0)).trans h0, h0b⟩
     . obtain ⟨b44, e, h0, h0b⟩ := h; exact ⟨b44, e, (hb.block _ (blk_lt h0)).trans h0, h0b⟩
     . obtain ⟨b44, b46, e, h0, h0b, h1, h1b⟩ := h; exact ⟨b44, b46, e, (hb.block _ (blk_lt h0)).trans h0, h0b, (hb.block _ (blk_lt h1)).trans h1, h1b⟩
     . exact h
     . obtain ⟨b40, b42, b44, b46, e, h0, h0b, h1, h1b, h2, h2b, h3, h3b⟩ := h; exact ⟨b40, b42, b44, b46, e, (hb.block _ (blk_lt h0)).trans h0, h0b, (hb.block _ (blk_lt h1)).trans h1, h1b, (hb.block _ (blk_lt h2)).trans h2, h2b, (hb.block _ (blk_lt h3)).trans h3, h3b⟩
     . obtain ⟨b34, b36, b40, b42, b44, b46, b49, e, hz, h0, h0b, h1, h1b, h2, h2b, h3, h3b, h4, h4b, h5, h5b⟩ := h; exact ⟨b34, b36, b40, b42, b44, b46, b49, e, (hb.block _ (blk_lt hz)).trans hz, (hb.block _ (blk_lt h0)).trans h0, h0b, (hb.block _ (blk_lt h1)).trans h1, h1b, (hb.block _ (blk_lt h2)).trans h2, h2b, (hb.block _ (blk_lt h3)).trans h3, h3b, (hb.block _ (blk_lt h4)).trans h4, h4b, (hb.block _ (blk_lt h5)).trans h5, h5b⟩
     . exact h
     . exact h
     . exact h
    case hpi =>
     intro q W W' v hq h
     rcases q with _ | _ | _ | _ | _ | _ | _ | _ | _ | _ | _ | _ | _ | _ | _ | _ | _ | _ | _ | _ | _ | _ | q
     . exact absurd hq (by decide)
     . exact absurd hq (by decide)
     . exact absurd hq (by decide)
     . exact absurd hq (by decide)
     . exact absurd hq (by decide)
     . exact absurd hq (by decide)
     . exact absurd hq (by decide)
     . exact absurd hq (by decide)
     . exact absurd hq (by decide)
     . exact absurd hq (by decide)
     . exact absurd hq (by decide)
     . exact absurd hq (by decide)
     . exact absurd hq (by decide)
     . exact absurd hq (by decide)
     . exact absurd hq (by decide)
     . exact absurd hq (by decide)
     . exact absurd hq (by decide)
     . exact absurd hq (by decide)
     . exact absurd hq (by decide)
     . exact absurd hq (by decide)
     . exact h
     . exact h
     . exact h
    case o0 =>
     intro _ _ a W hB hd ho
     replace hB := hB (by decide)
     have e5 : a.eval (.tmp 5) = .pointer (some ⟨bx, 0, none⟩) := ho 5 (by kernel_rfl)
     exact op_val (.pointer (some ⟨bx, 1, none⟩)) (by unfold execOp; simp only [ev_c, e5]; go_simp) ⟨_, rfl, rfl, fun _ => hB, fun _ => Below.refl _ _, fun _ => rfl⟩
    case o1 =>
     intro _ _ a W hB hd ho
     replace hB := hB (by decide)
     have e31 : a.eval (.tmp 31) = .pointer (some ⟨bx, 1, none⟩) := hd 0 31 (by kernel_rfl) (by decide)
     have c9 : W.cell? ⟨bx, 1, none⟩ = some (.slice rp m3 rc) := by
       rw [cell_of_blk ((hB.block _ (blk_lt HU4.out)).trans HU4.out)]
       rfl
     exact op_val (.slice rp m3 rc) (by unfold execOp; simp only [ev_c, e31]; go_simp) ⟨_, rfl, rfl, fun _ => hB, fun _ => Below.refl _ _, fun _ => rfl⟩
    case o2 =>
     intro _ _ a W hB hd ho
     replace hB := hB (by decide)
     exact op_bd 46 _ rfl #[(0, .string ⟨#[120]⟩), (1, .string ⟨#[99]⟩)] (by simp [ev_c]) (.agg #[.string ⟨#[120]⟩, .string ⟨#[99]⟩, .int .i64 0, .slice none 0 0, .int .i64 0, .int .i64 0, .int .i64 0, .string ⟨#[]⟩, .string ⟨#[]⟩, .string ⟨#[]⟩, .int .i64 0, .int .i64 0, .int .i64 0, .string ⟨#[]⟩, .string ⟨#[]⟩, .string ⟨#[]⟩, .int .i64 0, .int .i64 0]) (by kernel_rfl) ⟨_, rfl, rfl, fun _ => hB, fun _ => Below.refl _ _, fun _ => rfl⟩
    case o3 =>
     intro _ _ a W hB hd ho
     replace hB := hB (by decide)
     have e33 : a.eval (.tmp 33) = .agg #[.string ⟨#[120]⟩, .string ⟨#[99]⟩, .int .i64 0, .slice none 0 0, .int .i64 0, .int .i64 0, .int .i64 0, .string ⟨#[]⟩, .string ⟨#[]⟩, .string ⟨#[]⟩, .int .i64 0, .int .i64 0, .int .i64 0, .string ⟨#[]⟩, .string ⟨#[]⟩, .string ⟨#[]⟩, .int .i64 0, .int .i64 0] := hd 2 33 (by kernel_rfl) (by decide)
     have hal : Below W.heap.size W (W.alloc (.cells #[.string ⟨#[120]⟩, .string ⟨#[99]⟩, .int .i64 0, .slice none 0 0, .int .i64 0, .int .i64 0, .int .i64 0, .string ⟨#[]⟩, .string ⟨#[]⟩, .string ⟨#[]⟩, .int .i64 0, .int .i64 0, .int .i64 0, .string ⟨#[]⟩, .string ⟨#[]⟩, .string ⟨#[]⟩, .int .i64 0, .int .i64 0] 46)) := (Below.refl _ _).alloc (Nat.le_refl _) _
     refine op_bs 28 1 _ rfl #[(0, .agg #[.string ⟨#[120]⟩, .string ⟨#[99]⟩, .int .i64 0, .slice none 0 0, .int .i64 0, .int .i64 0, .int .i64 0, .string ⟨#[]⟩, .string ⟨#[]⟩, .string ⟨#[]⟩, .int .i64 0, .int .i64 0, .int .i64 0, .string ⟨#[]⟩, .string ⟨#[]⟩, .string ⟨#[]⟩, .int .i64 0, .int .i64 0])] (by simp [ev_c, e33]) (.slice (some ⟨W.heap.size, 0, none⟩) 1 1) (W.alloc (.cells #[.string ⟨#[120]⟩, .string ⟨#[99]⟩, .int .i64 0, .slice none 0 0, .int .i64 0, .int .i64 0, .int .i64 0, .string ⟨#[]⟩, .string ⟨#[]⟩, .string ⟨#[]⟩, .int .i64 0, .int .i64 0, .int .i64 0, .string ⟨#[]⟩, .string ⟨#[]⟩, .string ⟨#[]⟩, .int .i64 0, .int .i64 0] 46)) (by kernel_rfl) ⟨_, rfl, ⟨W.heap.size, rfl, heap_alloc_new _ _, Nat.le_trans HN4.out hB.size⟩, fun _ => below_trans hB hal hB.size, fun _ => hal, fun h9 => absurd h9 (by decide)⟩
    case o4 =>
     intro _ _ a W hB hd ho
     replace hB := hB (by decide)
     refine op_cl 9 ent_num _ _ rfl #[.int .i64 1] (by simp [ev_c]) _ (number_any 1 W) ?_
     rintro e W' ⟨rfl, hal⟩
     exact ⟨_, rfl, _, rfl, rfl, fun _ => below_trans hB hal hB.size, fun _ => hal, fun h9 => absurd h9 (by decide)⟩
    case o5 =>
     intro _ _ a W hB hd ho
     replace hB := hB (by decide)
     have e35 : a.eval (.tmp 35) = opV (numO 1) := hd 4 35 (by kernel_rfl) (by decide)
     have hal : Below W.heap.size W (W.alloc (.cells #[.int .i64 1, .int .i64 1, .int .i64 1, .string ⟨#[]⟩, .string ⟨#[]⟩, .string ⟨#[]⟩] 42)) := (Below.refl _ _).alloc (Nat.le_refl _) _
     refine op_bs 31 1 _ rfl #[(0, opV (numO 1))] (by simp [ev_c, e35]) (.slice (some ⟨W.heap.size, 0, none⟩) 1 1) (W.alloc (.cells #[.int .i64 1, .int .i64 1, .int .i64 1, .string ⟨#[]⟩, .string ⟨#[]⟩, .string ⟨#[]⟩] 42)) (by kernel_rfl) ⟨_, rfl, ⟨W.heap.size, rfl, heap_alloc_new _ _, Nat.le_trans HN4.out hB.size⟩, fun _ => below_trans hB hal hB.size, fun _ => hal, fun h9 => absurd h9 (by decide)⟩
    case o6 =>
     intro _ _ a W hB hd ho
     replace hB := hB (by decide)
     obtain ⟨b36, e36, h1⟩ : ∃ (b36 : Nat), a.eval (.tmp 36) = .slice (some ⟨b36, 0, none⟩) 1 1 ∧ W.heap[b36]? = some (.cells #[.int .i64 1, .int .i64 1, .int .i64 1, .string ⟨#[]⟩, .string ⟨#[]⟩, .string ⟨#[]⟩] 42 (0, 0)) ∧ b + 5 ≤ b36 := hd 5 36 (by kernel_rfl) (by decide)
     exact op_bd 33 _ rfl #[(0, .string ⟨#[101]⟩), (1, .slice (some ⟨b36, 0, none⟩) 1 1)] (by simp [ev_c, e36]) (.agg #[.string ⟨#[101]⟩, .slice (some ⟨b36, 0, none⟩) 1 1]) (by kernel_rfl) ⟨_, rfl, ⟨b36, rfl, h1⟩, fun _ => hB, fun _ => Below.refl _ _, fun _ => rfl⟩
    case o7 =>
     intro _ _ a W hB hd ho
     replace hB := hB (by decide)
     obtain ⟨b34, e34, h1⟩ : ∃ (b34 : Nat), a.eval (.tmp 34) = .slice (some ⟨b34, 0, none⟩) 1 1 ∧ W.heap[b34]? = some (.cells #[.string ⟨#[120]⟩, .string ⟨#[99]⟩, .int .i64 0, .slice none 0 0, .int .i64 0, .int .i64 0, .int .i64 0, .string ⟨#[]⟩, .string ⟨#[]⟩, .string ⟨#[]⟩, .int .i64 0, .int .i64 0, .int .i64 0, .string ⟨#[]⟩, .string ⟨#[]⟩, .string ⟨#[]⟩, .int .i64 0, .int .i64 0] 46 (0, 0)) ∧ b + 5 ≤ b34 := hd 3 34 (by kernel_rfl) (by decide)
     obtain ⟨b36, e37, h2⟩ : ∃ (b36 : Nat), a.eval (.tmp 37) = .agg #[.string ⟨#[101]⟩, .slice (some ⟨b36, 0, none⟩) 1 1] ∧ W.heap[b36]? = some (.cells #[.int .i64 1, .int .i64 1, .int .i64 1, .string ⟨#[]⟩, .string ⟨#[]⟩, .string ⟨#[]⟩] 42 (0, 0)) ∧ b + 5 ≤ b36 := hd 6 37 (by kernel_rfl) (by decide)
     exact op_bd 35 _ rfl #[(0, .string ⟨#[116, 104, 101, 114, 101]⟩), (1, .slice (some ⟨b34, 0, none⟩) 1 1), (5, .agg #[.string ⟨#[101]⟩, .slice (some ⟨b36, 0, none⟩) 1 1])] (by simp [ev_c, e34, e37]) (.agg #[.string ⟨#[116, 104, 101, 114, 101]⟩, .slice (some ⟨b34, 0, none⟩) 1 1, .slice none 0 0, .slice none 0 0, .slice none 0 0, .string ⟨#[101]⟩, .slice (some ⟨b36, 0, none⟩) 1 1]) (by kernel_rfl) ⟨_, rfl, ⟨b34, b36, rfl, h1.1, h1.2, h2⟩, fun _ => hB, fun _ => Below.refl _ _, fun _ => rfl⟩
    case o8 =>
     intro _ _ a W hB hd ho
     replace hB := hB (by decide)
     exact op_bd 46 _ rfl #[(0, .string ⟨#[120]⟩), (1, .string ⟨#[97]⟩)] (by simp [ev_c]) (.agg #[.string ⟨#[120]⟩, .string ⟨#[97]⟩, .int .i64 0, .slice none 0 0, .int .i64 0, .int .i64 0, .int .i64 0, .string ⟨#[]⟩, .string ⟨#[]⟩, .string ⟨#[]⟩, .int .i64 0, .int .i64 0, .int .i64 0, .string ⟨#[]⟩, .string ⟨#[]⟩, .string ⟨#[]⟩, .int .i64 0, .int .i64 0]) (by kernel_rfl) ⟨_, rfl, rfl, fun _ => hB, fun _ => Below.refl _ _, fun _ => rfl⟩
    case o9 =>
     intro _ _ a W hB hd ho
     replace hB := hB (by decide)
     have e39 : a.eval (.tmp 39) = .agg #[.string ⟨#[120]⟩, .string ⟨#[97]⟩, .int .i64 0, .slice none 0 0, .int .i64 0, .int .i64 0, .int .i64 0, .string ⟨#[]⟩, .string ⟨#[]⟩, .string ⟨#[]⟩, .int .i64 0, .int .i64 0, .int .i64 0, .string ⟨#[]⟩, .string ⟨#[]⟩, .string ⟨#[]⟩, .int .i64 0, .int .i64 0] := hd 8 39 (by kernel_rfl) (by decide)
     have hal : Below W.heap.size W (W.alloc (.cells #[.string ⟨#[120]⟩, .string ⟨#[97]⟩, .int .i64 0, .slice none 0 0, .int .i64 0, .int .i64 0, .int .i64 0, .string ⟨#[]⟩, .string ⟨#[]⟩, .string ⟨#[]⟩, .int .i64 0, .int .i64 0, .int .i64 0, .string ⟨#[]⟩, .string ⟨#[]⟩, .string ⟨#[]⟩, .int .i64 0, .int .i64 0] 46)) := (Below.refl _ _).alloc (Nat.le_refl _) _
     refine op_bs 28 1 _ rfl #[(0, .agg #[.string ⟨#[120]⟩, .string ⟨#[97]⟩, .int .i64 0, .slice none 0 0, .int .i64 0, .int .i64 0, .int .i64 0, .string ⟨#[]⟩, .string ⟨#[]⟩, .string ⟨#[]⟩, .int .i64 0, .int .i64 0, .int .i64 0, .string ⟨#[]⟩, .string ⟨#[]⟩, .string ⟨#[]⟩, .int .i64 0, .int .i64 0])] (by simp [ev_c, e39]) (.slice (some ⟨W.heap.size, 0, none⟩) 1 1) (W.alloc (.cells #[.string ⟨#[120]⟩, .string ⟨#[97]⟩, .int .i64 0, .slice none 0 0, .int .i64 0, .int .i64 0, .int .i64 0, .string ⟨#[]⟩, .string ⟨#[]⟩, .string ⟨#[]⟩, .int .i64 0, .int .i64 0, .int .i64 0, .string ⟨#[]⟩, .string ⟨#[]⟩, .string ⟨#[]⟩, .int .i64 0, .int .i64 0] 46)) (by kernel_rfl) ⟨_, rfl, ⟨W.heap.size, rfl, heap_alloc_new _ _, Nat.le_trans HN4.out hB.size⟩, fun _ => below_trans hB hal hB.size, fun _ => hal, fun h9 => absurd h9 (by decide)⟩
    case o10 =>
     intro _ _ a W hB hd ho
     replace hB := hB (by decide)
     exact op_bd 46 _ rfl #[(0, .string ⟨#[121]⟩), (1, .string ⟨#[101]⟩)] (by simp [ev_c]) (.agg #[.string ⟨#[121]⟩, .string ⟨#[101]⟩, .int .i64 0, .slice none 0 0, .int .i64 0, .int .i64 0, .int .i64 0, .string ⟨#[]⟩, .string ⟨#[]⟩, .string ⟨#[]⟩, .int .i64 0, .int .i64 0, .int .i64 0, .string ⟨#[]⟩, .string ⟨#[]⟩, .string ⟨#[]⟩, .int .i64 0, .int .i64 0]) (by kernel_rfl) ⟨_, rfl, rfl, fun _ => hB, fun _ => Below.refl _ _, fun _ => rfl⟩
    case o11 =>
     intro _ _ a W hB hd ho
     replace hB := hB (by decide)
     have e41 : a.eval (.tmp 41) = .agg #[.string ⟨#[121]⟩, .string ⟨#[101]⟩, .int .i64 0, .slice none 0 0, .int .i64 0, .int .i64 0, .int .i64 0, .string ⟨#[]⟩, .string ⟨#[]⟩, .string ⟨#[]⟩, .int .i64 0, .int .i64 0, .int .i64 0, .string ⟨#[]⟩, .string ⟨#[]⟩, .string ⟨#[]⟩, .int .i64 0, .int .i64 0] := hd 10 41 (by kernel_rfl) (by decide)
     have hal : Below W.heap.size W (W.alloc (.cells #[.string ⟨#[121]⟩, .string ⟨#[101]⟩, .int .i64 0, .slice none 0 0, .int .i64 0, .int .i64 0, .int .i64 0, .string ⟨#[]⟩, .string ⟨#[]⟩, .string ⟨#[]⟩, .int .i64 0, .int .i64 0, .int .i64 0, .string ⟨#[]⟩, .string ⟨#[]⟩, .string ⟨#[]⟩, .int .i64 0, .int .i64 0] 46)) := (Below.refl _ _).alloc (Nat.le_refl _) _
     refine op_bs 28 1 _ rfl #[(0, .agg #[.string ⟨#[121]⟩, .string ⟨#[101]⟩, .int .i64 0, .slice none 0 0, .int .i64 0, .int .i64 0, .int .i64 0, .string ⟨#[]⟩, .string ⟨#[]⟩, .string ⟨#[]⟩, .int .i64 0, .int .i64 0, .int .i64 0, .string ⟨#[]⟩, .string ⟨#[]⟩, .string ⟨#[]⟩, .int .i64 0, .int .i64 0])] (by simp [ev_c, e41]) (.slice (some ⟨W.heap.size, 0, none⟩) 1 1) (W.alloc (.cells #[.string ⟨#[121]⟩, .string ⟨#[101]⟩, .int .i64 0, .slice none 0 0, .int .i64 0, .int .i64 0, .int .i64 0, .string ⟨#[]⟩, .string ⟨#[]⟩, .string ⟨#[]⟩, .int .i64 0, .int .i64 0, .int .i64 0, .string ⟨#[]⟩, .string ⟨#[]⟩, .string ⟨#[]⟩, .int .i64 0, .int .i64 0] 46)) (by kernel_rfl) ⟨_, rfl, ⟨W.heap.size, rfl, heap_alloc_new _ _, Nat.le_trans HN4.out hB.size⟩, fun _ => below_trans hB hal hB.size, fun _ => hal, fun h9 => absurd h9 (by decide)⟩
    case o12 =>
     intro _ _ a W hB hd ho
     replace hB := hB (by decide)
     exact op_bd 51 _ rfl #[(0, .int .i64 1), (2, .int .i64 1)] (by simp [ev_c]) (.agg #[.int .i64 1, .int .i64 0, .int .i64 1]) (by kernel_rfl) ⟨_, rfl, rfl, fun _ => hB, fun _ => Below.refl _ _, fun _ => rfl⟩
    case o13 =>
     intro _ _ a W hB hd ho
     replace hB := hB (by decide)
     have e43 : a.eval (.tmp 43) = .agg #[.int .i64 1, .int .i64 0, .int .i64 1] := hd 12 43 (by kernel_rfl) (by decide)
     have hal : Below W.heap.size W (W.alloc (.cells #[.int .i64 1, .int .i64 0, .int .i64 1] 51)) := (Below.refl _ _).alloc (Nat.le_refl _) _
     refine op_bs 52 1 _ rfl #[(0, .agg #[.int .i64 1, .int .i64 0, .int .i64 1])] (by simp [ev_c, e43]) (.slice (some ⟨W.heap.size, 0, none⟩) 1 1) (W.alloc (.cells #[.int .i64 1, .int .i64 0, .int .i64 1] 51)) (by kernel_rfl) ⟨_, rfl, ⟨W.heap.size, rfl, heap_alloc_new _ _, Nat.le_trans HN4.out hB.size⟩, fun _ => below_trans hB hal hB.size, fun _ => hal, fun h9 => absurd h9 (by decide)⟩
    case o14 =>
     intro _ _ a W hB hd ho
     replace hB := hB (by decide)
     obtain ⟨b44, e44, h1⟩ : ∃ (b44 : Nat), a.eval (.tmp 44) = .slice (some ⟨b44, 0, none⟩) 1 1 ∧ W.heap[b44]? = some (.cells #[.int .i64 1, .int .i64 0, .int .i64 1] 51 (0, 0)) ∧ b + 5 ≤ b44 := hd 13 44 (by kernel_rfl) (by decide)
     exact op_bd 54 _ rfl #[(0, .string ⟨#[121]⟩), (1, .slice (some ⟨b44, 0, none⟩) 1 1), (2, .string ⟨#[120]⟩)] (by simp [ev_c, e44]) (.agg #[.string ⟨#[121]⟩, .slice (some ⟨b44, 0, none⟩) 1 1, .string ⟨#[120]⟩]) (by kernel_rfl) ⟨_, rfl, ⟨b44, rfl, h1⟩, fun _ => hB, fun _ => Below.refl _ _, fun _ => rfl⟩
    case o15 =>
     intro _ _ a W hB hd ho
     replace hB := hB (by decide)
     obtain ⟨b44, e45, h1, h1b⟩ : ∃ (b44 : Nat), a.eval (.tmp 45) = .agg #[.string ⟨#[121]⟩, .slice (some ⟨b44, 0, none⟩) 1 1, .string ⟨#[120]⟩] ∧ W.heap[b44]? = some (.cells #[.int .i64 1, .int .i64 0, .int .i64 1] 51 (0, 0)) ∧ b + 5 ≤ b44 := hd 14 45 (by kernel_rfl) (by decide)
     have hal : Below W.heap.size W (W.alloc (.cells #[.string ⟨#[121]⟩, .slice (some ⟨b44, 0, none⟩) 1 1, .string ⟨#[120]⟩] 54)) := (Below.refl _ _).alloc (Nat.le_refl _) _
     refine op_bs 30 1 _ rfl #[(0, .agg #[.string ⟨#[121]⟩, .slice (some ⟨b44, 0, none⟩) 1 1, .string ⟨#[120]⟩])] (by simp [ev_c, e45]) (.slice (some ⟨W.heap.size, 0, none⟩) 1 1) (W.alloc (.cells #[.string ⟨#[121]⟩, .slice (some ⟨b44, 0, none⟩) 1 1, .string ⟨#[120]⟩] 54)) (by kernel_rfl) ⟨_, rfl, ⟨b44, W.heap.size, rfl, (hal.block _ (blk_lt h1)).trans h1, h1b, heap_alloc_new _ _, Nat.le_trans HN4.out hB.size⟩, fun _ => below_trans hB hal hB.size, fun _ => hal, fun h9 => absurd h9 (by decide)⟩
    case o16 =>
     intro _ _ a W hB hd ho
     replace hB := hB (by decide)
     exact op_bd 33 _ rfl #[(0, .string ⟨#[99]⟩)] (by simp [ev_c]) (.agg #[.string ⟨#[99]⟩, .slice none 0 0]) (by kernel_rfl) ⟨_, rfl, rfl, fun _ => hB, fun _ => Below.refl _ _, fun _ => rfl⟩
    case o17 =>
     intro _ _ a W hB hd ho
     replace hB := hB (by decide)
     obtain ⟨b40, e40, h1⟩ : ∃ (b40 : Nat), a.eval (.tmp 40) = .slice (some ⟨b40, 0, none⟩) 1 1 ∧ W.heap[b40]? = some (.cells #[.string ⟨#[120]⟩, .string ⟨#[97]⟩, .int .i64 0, .slice none 0 0, .int .i64 0, .int .i64 0, .int .i64 0, .string ⟨#[]⟩, .string ⟨#[]⟩, .string ⟨#[]⟩, .int .i64 0, .int .i64 0, .int .i64 0, .string ⟨#[]⟩, .string ⟨#[]⟩, .string ⟨#[]⟩, .int .i64 0, .int .i64 0] 46 (0, 0)) ∧ b + 5 ≤ b40 := hd 9 40 (by kernel_rfl) (by decide)
     obtain ⟨b42, e42, h2⟩ : ∃ (b42 : Nat), a.eval (.tmp 42) = .slice (some ⟨b42, 0, none⟩) 1 1 ∧ W.heap[b42]? = some (.cells #[.string ⟨#[121]⟩, .string ⟨#[101]⟩, .int .i64 0, .slice none 0 0, .int .i64 0, .int .i64 0, .int .i64 0, .string ⟨#[]⟩, .string ⟨#[]⟩, .string ⟨#[]⟩, .int .i64 0, .int .i64 0, .int .i64 0, .string ⟨#[]⟩, .string ⟨#[]⟩, .string ⟨#[]⟩, .int .i64 0, .int .i64 0] 46 (0, 0)) ∧ b + 5 ≤ b42 := hd 11 42 (by kernel_rfl) (by decide)
     obtain ⟨b44, b46, e46, h3⟩ : ∃ (b44 b46 : Nat), a.eval (.tmp 46) = .slice (some ⟨b46, 0, none⟩) 1 1 ∧ W.heap[b44]? = some (.cells #[.int .i64 1, .int .i64 0, .int .i64 1] 51 (0, 0)) ∧ b + 5 ≤ b44 ∧ W.heap[b46]? = some (.cells #[.string ⟨#[121]⟩, .slice (some ⟨b44, 0, none⟩) 1 1, .string ⟨#[120]⟩] 54 (0, 0)) ∧ b + 5 ≤ b46 := hd 15 46 (by kernel_rfl) (by decide)
     have e47 : a.eval (.tmp 47) = .agg #[.string ⟨#[99]⟩, .slice none 0 0] := hd 16 47 (by kernel_rfl) (by decide)
     exact op_bd 35 _ rfl #[(0, .string ⟨#[98, 97, 99, 107]⟩), (1, .slice (some ⟨b40, 0, none⟩) 1 1), (2, .slice (some ⟨b42, 0, none⟩) 1 1), (4, .slice (some ⟨b46, 0, none⟩) 1 1), (5, .agg #[.string ⟨#[99]⟩, .slice none 0 0])] (by simp [ev_c, e40, e42, e46, e47]) (.agg #[.string ⟨#[98, 97, 99, 107]⟩, .slice (some ⟨b40, 0, none⟩) 1 1, .slice (some ⟨b42, 0, none⟩) 1 1, .slice none 0 0, .slice (some ⟨b46, 0, none⟩) 1 1, .string ⟨#[99]⟩, .slice none 0 0]) (by kernel_rfl) ⟨_, rfl, ⟨b40, b42, b44, b46, rfl, h1.1, h1.2, h2.1, h2.2, h3⟩, fun _ => hB, fun _ => Below.refl _ _, fun _ => rfl⟩
    case o18 =>
     intro _ _ a W hB hd ho
     replace hB := hB (by decide)
     obtain ⟨b34, b36, e38, h1, h1b, h2, h2b⟩ : ∃ (b34 b36 : Nat), a.eval (.tmp 38) = .agg #[.string ⟨#[116, 104, 101, 114, 101]⟩, .slice (some ⟨b34, 0, none⟩) 1 1, .slice none 0 0, .slice none 0 0, .slice none 0 0, .string ⟨#[101]⟩, .slice (some ⟨b36, 0, none⟩) 1 1] ∧ W.heap[b34]? = some (.cells #[.string ⟨#[120]⟩, .string ⟨#[99]⟩, .int .i64 0, .slice none 0 0, .int .i64 0, .int .i64 0, .int .i64 0, .string ⟨#[]⟩, .string ⟨#[]⟩, .string ⟨#[]⟩, .int .i64 0, .int .i64 0, .int .i64 0, .string ⟨#[]⟩, .string ⟨#[]⟩, .string ⟨#[]⟩, .int .i64 0, .int .i64 0] 46 (0, 0)) ∧ b + 5 ≤ b34 ∧ W.heap[b36]? = some (.cells #[.int .i64 1, .int .i64 1, .int .i64 1, .string ⟨#[]⟩, .string ⟨#[]⟩, .string ⟨#[]⟩] 42 (0, 0)) ∧ b + 5 ≤ b36 := hd 7 38 (by kernel_rfl) (by decide)
     obtain ⟨b40, b42, b44, b46, e48, h3, h3b, h4, h4b, h5, h5b, h6, h6b⟩ : ∃ (b40 b42 b44 b46 : Nat), a.eval (.tmp 48) = .agg #[.string ⟨#[98, 97, 99, 107]⟩, .slice (some ⟨b40, 0, none⟩) 1 1, .slice (some ⟨b42, 0, none⟩) 1 1, .slice none 0 0, .slice (some ⟨b46, 0, none⟩) 1 1, .string ⟨#[99]⟩, .slice none 0 0] ∧ W.heap[b40]? = some (.cells #[.string ⟨#[120]⟩, .string ⟨#[97]⟩, .int .i64 0, .slice none 0 0, .int .i64 0, .int .i64 0, .int .i64 0, .string ⟨#[]⟩, .string ⟨#[]⟩, .string ⟨#[]⟩, .int .i64 0, .int .i64 0, .int .i64 0, .string ⟨#[]⟩, .string ⟨#[]⟩, .string ⟨#[]⟩, .int .i64 0, .int .i64 0] 46 (0, 0)) ∧ b + 5 ≤ b40 ∧ W.heap[b42]? = some (.cells #[.string ⟨#[121]⟩, .string ⟨#[101]⟩, .int .i64 0, .slice none 0 0, .int .i64 0, .int .i64 0, .int .i64 0, .string ⟨#[]⟩, .string ⟨#[]⟩, .string ⟨#[]⟩, .int .i64 0, .int .i64 0, .int .i64 0, .string ⟨#[]⟩, .string ⟨#[]⟩, .string ⟨#[]⟩, .int .i64 0, .int .i64 0] 46 (0, 0)) ∧ b + 5 ≤ b42 ∧ W.heap[b44]? = some (.cells #[.int .i64 1, .int .i64 0, .int .i64 1] 51 (0, 0)) ∧ b + 5 ≤ b44 ∧ W.heap[b46]? = some (.cells #[.string ⟨#[121]⟩, .slice (some ⟨b44, 0, none⟩) 1 1, .string ⟨#[120]⟩] 54 (0, 0)) ∧ b + 5 ≤ b46 := hd 17 48 (by kernel_rfl) (by decide)
     have hal : Below W.heap.size W (W.alloc (.cells #[.string ⟨#[116, 104, 101, 114, 101]⟩, .slice (some ⟨b34, 0, none⟩) 1 1, .slice none 0 0, .slice none 0 0, .slice none 0 0, .string ⟨#[101]⟩, .slice (some ⟨b36, 0, none⟩) 1 1, .string ⟨#[98, 97, 99, 107]⟩, .slice (some ⟨b40, 0, none⟩) 1 1, .slice (some ⟨b42, 0, none⟩) 1 1, .slice none 0 0, .slice (some ⟨b46, 0, none⟩) 1 1, .string ⟨#[99]⟩, .slice none 0 0] 35)) := (Below.refl _ _).alloc (Nat.le_refl _) _
     refine op_bs 24 2 _ rfl #[(0, .agg #[.string ⟨#[116, 104, 101, 114, 101]⟩, .slice (some ⟨b34, 0, none⟩) 1 1, .slice none 0 0, .slice none 0 0, .slice none 0 0, .string ⟨#[101]⟩, .slice (some ⟨b36, 0, none⟩) 1 1]), (1, .agg #[.string ⟨#[98, 97, 99, 107]⟩, .slice (some ⟨b40, 0, none⟩) 1 1, .slice (some ⟨b42, 0, none⟩) 1 1, .slice none 0 0, .slice (some ⟨b46, 0, none⟩) 1 1, .string ⟨#[99]⟩, .slice none 0 0])] (by simp [ev_c, e38, e48]) (.slice (some ⟨W.heap.size, 0, none⟩) 2 2) (W.alloc (.cells #[.string ⟨#[116, 104, 101, 114, 101]⟩, .slice (some ⟨b34, 0, none⟩) 1 1, .slice none 0 0, .slice none 0 0, .slice none 0 0, .string ⟨#[101]⟩, .slice (some ⟨b36, 0, none⟩) 1 1, .string ⟨#[98, 97, 99, 107]⟩, .slice (some ⟨b40, 0, none⟩) 1 1, .slice (some ⟨b42, 0, none⟩) 1 1, .slice none 0 0, .slice (some ⟨b46, 0, none⟩) 1 1, .string ⟨#[99]⟩, .slice none 0 0] 35)) (by kernel_rfl) ⟨_, rfl, ⟨b34, b36, b40, b42, b44, b46, W.heap.size, rfl, heap_alloc_new _ _, (hal.block _ (blk_lt h1)).trans h1, h1b, (hal.block _ (blk_lt h2)).trans h2, h2b, (hal.block _ (blk_lt h3)).trans h3, h3b, (hal.block _ (blk_lt h4)).trans h4, h4b, (hal.block _ (blk_lt h5)).trans h5, h5b, (hal.block _ (blk_lt h6)).trans h6, h6b⟩, fun _ => below_trans hB hal hB.size, fun _ => hal, fun h9 => absurd h9 (by decide)⟩
    case o19 =>
     intro h9; exact absurd rfl h9
    case o20 =>
     intro _ _ a W hB hd ho
     have e5 : a.eval (.tmp 5) = .pointer (some ⟨bx, 0, none⟩) := ho 5 (by kernel_rfl)
     exact op_val (.pointer (some ⟨bx, 1, none⟩)) (by unfold execOp; simp only [ev_c, e5]; go_simp) ⟨_, rfl, rfl, fun h9 => absurd h9 (by decide), fun h9 => absurd h9 (by decide), fun _ => rfl⟩
    case o21 =>
     intro _ h9; exact absurd rfl h9
    case hS =>
     intro a W vs hB hT hd hout
     have e1 : vs 1 = .slice rp m3 rc := hT 1 (by decide)
     obtain ⟨b34, b36, b40, b42, b44, b46, b49, e18, hz, h1, h1b, h2, h2b, h3, h3b, h4, h4b, h5, h5b, h6, h6b⟩ : ∃ (b34 b36 b40 b42 b44 b46 b49 : Nat), vs 18 = .slice (some ⟨b49, 0, none⟩) 2 2 ∧ W.heap[b49]? = some (.cells #[.string ⟨#[116, 104, 101, 114, 101]⟩, .slice (some ⟨b34, 0, none⟩) 1 1, .slice none 0 0, .slice none 0 0, .slice none 0 0, .string ⟨#[101]⟩, .slice (some ⟨b36, 0, none⟩) 1 1, .string ⟨#[98, 97, 99, 107]⟩, .slice (some ⟨b40, 0, none⟩) 1 1, .slice (some ⟨b42, 0, none⟩) 1 1, .slice none 0 0, .slice (some ⟨b46, 0, none⟩) 1 1, .string ⟨#[99]⟩, .slice none 0 0] 35 (0, 0)) ∧ W.heap[b34]? = some (.cells #[.string ⟨#[120]⟩, .string ⟨#[99]⟩, .int .i64 0, .slice none 0 0, .int .i64 0, .int .i64 0, .int .i64 0, .string ⟨#[]⟩, .string ⟨#[]⟩, .string ⟨#[]⟩, .int .i64 0, .int .i64 0, .int .i64 0, .string ⟨#[]⟩, .string ⟨#[]⟩, .string ⟨#[]⟩, .int .i64 0, .int .i64 0] 46 (0, 0)) ∧ b + 5 ≤ b34 ∧ W.heap[b36]? = some (.cells #[.int .i64 1, .int .i64 1, .int .i64 1, .string ⟨#[]⟩, .string ⟨#[]⟩, .string ⟨#[]⟩] 42 (0, 0)) ∧ b + 5 ≤ b36 ∧ W.heap[b40]? = some (.cells #[.string ⟨#[120]⟩, .string ⟨#[97]⟩, .int .i64 0, .slice none 0 0, .int .i64 0, .int .i64 0, .int .i64 0, .string ⟨#[]⟩, .string ⟨#[]⟩, .string ⟨#[]⟩, .int .i64 0, .int .i64 0, .int .i64 0, .string ⟨#[]⟩, .string ⟨#[]⟩, .string ⟨#[]⟩, .int .i64 0, .int .i64 0] 46 (0, 0)) ∧ b + 5 ≤ b40 ∧ W.heap[b42]? = some (.cells #[.string ⟨#[121]⟩, .string ⟨#[101]⟩, .int .i64 0, .slice none 0 0, .int .i64 0, .int .i64 0, .int .i64 0, .string ⟨#[]⟩, .string ⟨#[]⟩, .string ⟨#[]⟩, .int .i64 0, .int .i64 0, .int .i64 0, .string ⟨#[]⟩, .string ⟨#[]⟩, .string ⟨#[]⟩, .int .i64 0, .int .i64 0] 46 (0, 0)) ∧ b + 5 ≤ b42 ∧ W.heap[b44]? = some (.cells #[.int .i64 1, .int .i64 0, .int .i64 1] 51 (0, 0)) ∧ b + 5 ≤ b44 ∧ W.heap[b46]? = some (.cells #[.string ⟨#[121]⟩, .slice (some ⟨b44, 0, none⟩) 1 1, .string ⟨#[120]⟩] 54 (0, 0)) ∧ b + 5 ≤ b46 := hT 18 (by decide)
     refine op_appT2 _ _ 24 rfl (b + 5) isR 35 7 152 ir _ Tryd.underlying24 HIR.out.1 HIR.out.2.1 HIR.out.2.2.1 HIR.out.2.2.2 rfl (by omega) (by decide) (.slice rp m3 rc) ((fst3 l).map encR) ((hd 1 32 (by kernel_rfl)).trans e1) (HR4.out.below hB) (Nat.le_trans HN4.out hB.size) b49 [.string ⟨#[116, 104, 101, 114, 101]⟩, .slice (some ⟨b34, 0, none⟩) 1 1, .slice none 0 0, .slice none 0 0, .slice none 0 0, .string ⟨#[101]⟩, .slice (some ⟨b36, 0, none⟩) 1 1, .string ⟨#[98, 97, 99, 107]⟩, .slice (some ⟨b40, 0, none⟩) 1 1, .slice (some ⟨b42, 0, none⟩) 1 1, .slice none 0 0, .slice (some ⟨b46, 0, none⟩) 1 1, .string ⟨#[99]⟩, .slice none 0 0] ((hd 18 49 (by kernel_rfl)).trans e18) hz (by rfl) (by rfl) (encR thR) (encR bkR) (kt_two h1 h1b h2 h2b h3 h3b h4 h4b h5 h5b h6 h6b) (by decide) HLW.out (m3 + 2) HLW2.out ?_
     intro p' c' W' k1 k2 k3
     exact ⟨_, rfl, p', c', W, rfl, hB, k2, k1⟩
    case hend =>
     intro vs W hB2 hT
     obtain ⟨p', c', Wp, e19, k1, k2, k4⟩ := hB2
     have e20 : vs 20 = .pointer (some ⟨bx, 1, none⟩) := hT 20 (by decide) (by decide)
     have hR6 := HR4.out.below k1
     have hU6 := (k1.block _ (blk_lt HU4.out)).trans HU4.out
     have hTY6 : Tys Wp b := HTY4.out.later (fun i o hi _ _ => (k1.block _ (blk_lt hi)).trans hi)
     have hBW6 := below_trans HB4.out k1 HB4.out.size
     have HU7 := hid ((k2.block _ (blk_lt hU6) (fun e9 => (hR6.tb e9.symm).1.ne ⟨_, hU6⟩ (by decide) rfl)).trans hU6)
     have HTY7 := hid (tys_grown hTY6 hR6 k2)
     have HB7 := hid (hBW6.grown k2 hBW6.size (fun i hi => by have h8 := (hR6.tb hi).2; have h9 := HB0.out; omega))
     have HR7 := hid k4
     refine ⟨bx, 1, [.slice (some ⟨b + 4, 0, none⟩) 5 5, .slice rp m3 rc], 26, .slice p' (m3 + 2) c', [.slice p' (m3 + 2) c'], Eq.trans (b := vs 20) (by kernel_rfl) e20, Eq.trans (b := vs 19) (by kernel_rfl) e19, rfl, HU7.out, by simp, by kernel_rfl, rfl, ?_⟩
     intro w8 hq1 hq2
     have HU8 := hid hq1
     have HR8 := hid (HR7.out.set hq2 ⟨_, HU7.out⟩ (by decide) (by decide))
     have HTY8 : Hid (Tys w8 b) := HTY7.out.later (fun i o hi _ hb2 => (hq2.block _ (blk_lt hi) (by have := HBb.out; show i ≠ bx; omega)).trans hi)
     have HB8' : Hid (Below w.heap.size w w8) := below_fr HB7.out hq2 (by have := HBb.out; have := HB0.out; omega)
     have c0 : w8.cell? ⟨bx, 0, none⟩ = some (.slice (some ⟨b + 4, 0, none⟩) 5 5) := (by rw [cell_of_blk HU8.out]; rfl)
     have c1 : w8.cell? ⟨bx, 1, none⟩ = some (.slice p' (m3 + 2) c') := (by rw [cell_of_blk HU8.out]; rfl)
     clear hq1 hq2
     clear k1 k2 k4 hT hR6 hU6 hTY6 hBW6
     simp only [putsD, Act.put, List.setIfInBounds_toArray, e19, e20]
     simp only [set_c20]
     simp only [List.set_cons_zero, List.set_cons_succ]
     clear e19 e20
     generalize vs 0 = v0
     generalize vs 1 = v1
     generalize vs 2 = v2
     generalize vs 3 = v3
     generalize vs 4 = v4
     generalize vs 5 = v5
     generalize vs 6 = v6
     generalize vs 7 = v7
     generalize vs 8 = v8
     generalize vs 9 = v9
     generalize vs 10 = v10
     generalize vs 11 = v11
     generalize vs 12 = v12
     generalize vs 13 = v13
     generalize vs 14 = v14
     generalize vs 15 = v15
     generalize vs 16 = v16
     generalize vs 17 = v17
     generalize vs 18 = v18
     clear vs
     go_wp2_with fail
     refine (HCK.out (fst3 l ++ [thR, bkR]) (szr_loop l _ (.inr rfl)) _ _ w8 HB8'.out HTY8.out.rd (by rw [List.map_append]; exact HR8.out.rd)).mono ?_
     rintro e w9 ⟨rfl, hb9⟩
     rw [bok_loop l _ (.inr rfl)]
     have HB9 := hid (below_trans HB8'.out hb9 HB8'.out.size)
     clear hb9 c0 c1
     go_wp2_with fail
     go_ret
     exact ⟨ret_bool (by simp), HB9.out⟩
end Go.Proofs.YtdihklfaiiclgaaDoor.Chk
