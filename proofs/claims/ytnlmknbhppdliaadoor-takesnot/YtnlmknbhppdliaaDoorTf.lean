/-
  The walk of TakesNot.
-/
import Derived.Deep.CutBlock
import Derived.BigQuiet
import Derived.Test.YtnlmknbhppdliaaDoorTe
set_option maxHeartbeats 64000000
namespace Go.Proofs.YtnlmknbhppdliaaDoor.Chk
open Go.ChangeShapes Go.WideShapes Go.ChangeAt Go.RowKit Go.Maps
set_option linter.unusedVariables false
set_option linter.unusedSimpArgs false
set_option maxRecDepth 20000
theorem rdCq {w : World} {c : Cn} {cs : List Value} (h : RdL w (encC c) cs) : ∃ v, cs = cnC c.k v c.l c.r ∧ Rd w (.row 33 14 c.sb) v := by
  obtain ⟨v0, r0, rfl, h0, h⟩ := RdL.one h
  obtain ⟨v1, r1, rfl, h1, h⟩ := RdL.one h
  obtain ⟨v2, r2, rfl, h2, h⟩ := RdL.one h
  obtain ⟨v3, r3, rfl, h3, h⟩ := RdL.one h
  obtain ⟨v4, r4, rfl, h4, h⟩ := RdL.one h
  obtain ⟨v5, r5, rfl, h5, h⟩ := RdL.one h
  obtain ⟨v6, r6, rfl, h6, h⟩ := RdL.one h
  obtain ⟨v7, r7, rfl, h7, h⟩ := RdL.one h
  obtain ⟨v8, r8, rfl, h8, h⟩ := RdL.one h
  obtain ⟨v9, r9, rfl, h9, h⟩ := RdL.one h
  obtain ⟨v10, r10, rfl, h10, h⟩ := RdL.one h
  obtain ⟨v11, r11, rfl, h11, h⟩ := RdL.one h
  obtain ⟨v12, r12, rfl, h12, h⟩ := RdL.one h
  obtain ⟨v13, r13, rfl, h13, h⟩ := RdL.one h
  refine ⟨v1, ?_, h1⟩
  rw [zAK h0, zAK h2, zAK h3, zAK h4, zAK h5, zAK h6, zAK h7, zAK h8, zAK h9, zAK h10, zAK h11, zAK h12, zAK h13, RdL.none h]
theorem ent_ty : ∀ args w, (callFunc 8 args).run Tryd.prog w = .ok (.enter 8 args) w := enters_of Tryd.func8 (by kernel_rfl) rfl
theorem infoB : (Tryd.prog.info? 4).map (fun i => (i.zero, i.size, i.bytes)) = some (some (.bool false), 1, 1) := by kernel_rfl
theorem wp_appB {ops : Array Oper} {rest : List Oper} {o : Oper} {a : Act} {w : World} {Q : Exit → Act → World → Prop} (hgd : o.guard = none) (s x : Operand) (ho : o.op = .call { callee := .builtin .append, args := #[s, x], argTypes := #[42, 42] }) (base n : Nat) (v : Value) (xs : List Value) (hs : a.eval s = v) (hr : w.ownsRow base 4 1 v n xs) (hbase : base ≤ w.heap.size) (g : Nat) (b : Bool) (hx : a.eval x = .slice (some ⟨g, 0, none⟩) 1 1) (hc : w.cell? ⟨g, 0, none⟩ = some (.bool b)) (hn : n ≤ 100)
  (h : ∀ v' w', w'.ownsRow base 4 1 v' (n + 1) (xs ++ [.bool b]) → w.grownBy w' v.ownBlock → wpList Tryd.prog ops Q rest (a.put o.dst v') w') : wpList Tryd.prog ops Q (o :: rest) a w := by
 obtain ⟨i0, b1, b2, b3, b4⟩ := info_parts infoB
 refine wpList_append_own_at _ hgd s x 42 ho base 4 i0 (.bool false) 1 1 Tryd.underlying42 b1 b2 b3 b4 rfl (by omega) v n xs hs hr ⟨g, 0, none⟩ 1 1 [.bool b] hx rfl (fun j u hj => by rcases j with _ | j; (simp at hj; subst hj; exact hc); simp at hj) (fun u hu => by simp at hu; subst hu; rfl) (by unfold maxLen; omega) (by omega) hbase ?_
 intro v' w' q1 q2 q3 q4
 exact h v' w' q1 q2
theorem pkd_self {j : Nat} (h : j < 4) : pkd (j : Int) 4 = (j : Int) := by
  unfold pkd
  rw [if_pos (by omega)]
  exact Int.emod_eq_of_lt (by omega) (by omega)
theorem takesNot_walk (cty cco cn cwi csi kd dty lg nn dl : Int) (tx : ByteArray) (cl : Bool) (w : World) (hcty1 : -9223372036854775808 ≤ cty) (hcty2 : cty ≤ 9223372036854775807) (hcco1 : -9223372036854775808 ≤ cco) (hcco2 : cco ≤ 9223372036854775807) (hcn1 : -9223372036854775808 ≤ cn) (hcn2 : cn ≤ 9223372036854775807) (hlg1 : -9223372036854775808 ≤ lg) (hlg2 : lg ≤ 9223372036854775807) (hnn1 : -9223372036854775808 ≤ nn) (hnn2 : nn ≤ 9223372036854775807) (htk : Tab w 0 kpl) (htr : Tab w 1 rll) :
  Calls Tryd.prog 3 #[.agg #[.int .i64 cty, .int .i64 cco, .int .i64 cn, .int .i64 cwi, .int .i64 csi], .agg #[.int .i64 kd, .int .i64 dty, .int .i64 lg, .int .i64 nn, .int .i64 dl, .string tx, .bool cl]] w fun e w' => e = .returned (.bool true) ∧ Below w.heap.size w w' := by
 obtain ⟨j, hj⟩ : ∃ j : Nat, pkd cty 4 = (j : Int) := ⟨(pkd cty 4).toNat, by have := (zBZ cty (m := 4) (by decide)).1; omega⟩
 have hj4 : j < 4 := by have := (zBZ cty (m := 4) (by decide)).2; omega
 obtain ⟨k0, hk0⟩ : ∃ k : Nat, pkd cn 6 = (k : Int) := ⟨(pkd cn 6).toNat, by have := (zBZ cn (m := 6) (by decide)).1; omega⟩
 have hk6 : k0 < 6 := by have := (zBZ cn (m := 6) (by decide)).2; omega
 obtain ⟨co, hco⟩ : ∃ co : Nat, (pkd cco 9).toNat = co := ⟨_, rfl⟩
 have hco9 : co < 9 := by have h1 := (zBZ cco (m := 9) (by decide)).2; have h2 := (zBZ cco (m := 9) (by decide)).1; omega
 obtain ⟨q6, hq6⟩ : ∃ q, pkd nn 6 = q := ⟨_, rfl⟩
 have hqr := zBZ nn (m := 6) (by decide)
 rw [hq6] at hqr
 obtain ⟨k, hkk⟩ : ∃ k : Int, (k0 : Int) = k := ⟨_, rfl⟩
 have HP4 := hid (fun W => zAM cty 4 W hcty1 hcty2 (by decide) (by decide))
 have HWH := hid (fun W => zHY cty cco cn cwi csi hcn1 hcn2 hcco1 hcco2 j W)
 have HON := hid (fun W => one_any kd (j : Nat) lg nn dl tx cl W (by omega) (by omega) hlg1 hlg2 hnn1 hnn2 j (pkd_self hj4))
 rw [hj] at HP4
 rw [hco, hk0, hkk] at HWH
 rw [hq6] at HON
 obtain ⟨cc, hcc⟩ : ∃ c, whC co j k (numO k) = c := ⟨_, rfl⟩
 rw [hcc] at HWH
 have HWN : Hid (whN co j k = if cc.k = 0 then cmpC 4 (numO 1) (numO 1) else cc) := by show _ = _; unfold whN; rw [hcc]
 obtain ⟨ck, csb, ⟨lk, lvk, lvi, lvt, lva, lfd⟩, ⟨rk, rvk, rvi, rvt, rva, rfd⟩⟩ := cc
 have HQR := hid hqr
 have HJ4 := hid hj4
 have HCN : Hid ((k0 : Int) = k ∧ k0 < 6 ∧ co < 9) := ⟨hkk, hk6, hco9⟩
 have hB := hp2 (bxs2 w [.int .i64 cty, .int .i64 cco, .int .i64 cn, .int .i64 cwi, .int .i64 csi] [.int .i64 kd, .int .i64 dty, .int .i64 lg, .int .i64 nn, .int .i64 dl, .string tx, .bool cl] 23 25)
 have HB := hid hB
 have X0 := hid (hB.r 0 (by simp))
 have cA : ((w.alloc (.cells #[.int .i64 cty, .int .i64 cco, .int .i64 cn, .int .i64 cwi, .int .i64 csi] 23)).alloc (.cells #[.int .i64 kd, .int .i64 dty, .int .i64 lg, .int .i64 nn, .int .i64 dl, .string tx, .bool cl] 25)).cell? ⟨w.heap.size, 0, none⟩ = some (.int .i64 cty) := hB.c 0 (by simp) 0
 have HTK := hid htk
 have HTR := hid htr
 clear hB hcty1 hcty2 hcco1 hcco2 hcn1 hcn2 hlg1 hlg2 hnn1 hnn2 hj hk0 hco hq6 hqr hcc hj4 hk6 hco9 hkk htk htr
 go_enter Tryd.func3, Tryd.ntmps3
 go_upto_if 22 with (first
  | (go_at_call 4; refine (HP4.out _).mono ?_; rintro e w1 ⟨rfl, hw1⟩; subst hw1)
  | ((with_reducible show wpList _ _ _ (Oper.mk (some 17) _ _ _ _ _ :: _) _ _); refine wpList_load_mid (by rfl) 23 _ (by rfl) w.heap.size 0 (by rfl) [.int .i64 cty, .int .i64 cco, .int .i64 cn, .int .i64 cwi, .int .i64 csi] _ X0.out Tryd.underlying23 rfl (by kernel_rfl) ?_)
  | (go_at_call 5; refine (HWH.out _).mono ?_; rintro e w1 ⟨cs, rfl, hR, hb⟩; obtain ⟨sv, hcs, hrv⟩ := rdCq (hR w1 (fun _ _ _ => rfl)); obtain ⟨sp, sn, sc, rfl⟩ := zAB hrv; subst hcs; have HR1 := hid hR; have HB1 := hid (HB.out.next hb); clear hR hb hrv)
  | ((with_reducible show wpList _ _ _ (Oper.mk _ (.store 33 _ _) _ _ _ _ :: _) _ _); refine zA5 33 w1.heap.size 0 [.int .i64 0, .slice none 0 0, .int .i64 0, .int .i64 0, .int .i64 0, .string ⟨#[]⟩, .string ⟨#[]⟩, .string ⟨#[]⟩, .int .i64 0, .int .i64 0, .int .i64 0, .string ⟨#[]⟩, .string ⟨#[]⟩, .string ⟨#[]⟩] 33 [.int .i64 ck, .slice sp sn sc, .int .i64 lk, .int .i64 lvk, .int .i64 lvi, .string lvt, .string lva, .string lfd, .int .i64 rk, .int .i64 rvk, .int .i64 rvi, .string rvt, .string rva, .string rfd] (heap_alloc_new _ _) ?_; intro w2 hblk hfr; have hb12 : Below w1.heap.size w1 w2 := zAH hfr; have HW2 : Hid (w2.heap[w1.heap.size]? = some (.cells #[.int .i64 ck, .slice sp sn sc, .int .i64 lk, .int .i64 lvk, .int .i64 lvi, .string lvt, .string lva, .string lfd, .int .i64 rk, .int .i64 rvk, .int .i64 rvi, .string rvt, .string rva, .string rfd] 33 (0, 0))) := hblk; have HP2 := hid (HB1.out.next hb12); have HR2 : Hid (∀ W, (∀ i, w.heap.size + 2 ≤ i → i ≠ w1.heap.size → i < w2.heap.size → W.heap[i]? = w2.heap[i]?) → RdL W (encC ⟨ck, csb, (⟨lk, lvk, lvi, lvt, lva, lfd⟩ : Opd), (⟨rk, rvk, rvi, rvt, rva, rfd⟩ : Opd)⟩) [.int .i64 ck, .slice sp sn sc, .int .i64 lk, .int .i64 lvk, .int .i64 lvi, .string lvt, .string lva, .string lfd, .int .i64 rk, .int .i64 rvk, .int .i64 rvi, .string rvt, .string rva, .string rfd]) := (fun W hW => HR1.out W (fun i q1 q2 => (hW i (by simpa using q1) (by omega) (Nat.lt_of_lt_of_le q2 hb12.size)).trans (hb12.block i q2))); have c0 : w2.cell? ⟨w1.heap.size, 0, none⟩ = some (.int .i64 ck) := zAD HW2.out 0; have HLT : Hid (w.heap.size + 1 < w1.heap.size) := (show w.heap.size + 1 < w1.heap.size from zAE (HB1.out.b 1 (by simp))); clear hblk hfr hb12))
 clear HB X0 cA HP4 HWH HB1 HR1
 generalize w1.heap.size = b6 at HW2 c0 HLT HR2 ⊢
 go_cut [] from 17 to 25 (fun wx => ∃ (ck : Int) (sp : Option Addr) (sn sc : Nat) (lk lvk lvi : Int) (lvt lva lfd : ByteArray) (rk rvk rvi : Int) (rvt rva rfd : ByteArray), Hp w wx [(w.heap.size, [.int .i64 cty, .int .i64 cco, .int .i64 cn, .int .i64 cwi, .int .i64 csi], 23), (w.heap.size + 1, [.int .i64 kd, .int .i64 dty, .int .i64 lg, .int .i64 nn, .int .i64 dl, .string tx, .bool cl], 25)] ∧ wx.heap[b6]? = some (.cells #[.int .i64 ck, .slice sp sn sc, .int .i64 lk, .int .i64 lvk, .int .i64 lvi, .string lvt, .string lva, .string lfd, .int .i64 rk, .int .i64 rvk, .int .i64 rvi, .string rvt, .string rva, .string rfd] 33 (0, 0)) ∧ (∀ W, (∀ i, w.heap.size + 2 ≤ i → i ≠ b6 → i < wx.heap.size → W.heap[i]? = wx.heap[i]?) → RdL W (encC (whN co j k)) [.int .i64 ck, .slice sp sn sc, .int .i64 lk, .int .i64 lvk, .int .i64 lvi, .string lvt, .string lva, .string lfd, .int .i64 rk, .int .i64 rvk, .int .i64 rvi, .string rvt, .string rva, .string rfd]))
 case first =>
  by_cases hz : ck = 0
  . have d1 : (ck == 0) = true := by simpa using hz
    have HWZ : Hid (whN co j k = cmpC 4 (numO 1) (numO 1)) := by have h := HWN.out; rw [if_pos hz] at h; exact h
    clear HWN hz
    go_wp2_with (first
      | (go_at_call 6; refine (zAR 1 _).mono ?_; rintro e w4 ⟨rfl, hb4⟩; have HP4 := hid (HP3.out.next hb4); have HW4 : Hid (w4.heap[b6]? = some (.cells #[.int .i64 ck, .slice sp sn sc, .int .i64 lk, .int .i64 lvk, .int .i64 lvi, .string lvt, .string lva, .string lfd, .int .i64 rk, .int .i64 rvk, .int .i64 rvi, .string rvt, .string rva, .string rfd] 33 (0, 0))) := (hb4.block _ (zAE HW3.out)).trans HW3.out; clear hb4)
      | (go_at_call 6; refine (zAR 1 _).mono ?_; rintro e w3 ⟨rfl, hb3⟩; have HP3 := hid (HP2.out.next hb3); have HW3 : Hid (w3.heap[b6]? = some (.cells #[.int .i64 ck, .slice sp sn sc, .int .i64 lk, .int .i64 lvk, .int .i64 lvi, .string lvt, .string lva, .string lfd, .int .i64 rk, .int .i64 rvk, .int .i64 rvi, .string rvt, .string rva, .string rfd] 33 (0, 0))) := (hb3.block _ (zAE HW2.out)).trans HW2.out; clear hb3)
      | ((with_reducible show wpList _ _ _ (Oper.mk _ (.store 33 _ _) _ _ _ _ :: _) _ _); refine zA5 33 b6 0 [.int .i64 ck, .slice sp sn sc, .int .i64 lk, .int .i64 lvk, .int .i64 lvi, .string lvt, .string lva, .string lfd, .int .i64 rk, .int .i64 rvk, .int .i64 rvi, .string rvt, .string rva, .string rfd] 33 [.int .i64 4, .slice none 0 0, .int .i64 1, .int .i64 1, .int .i64 1, .string ⟨#[]⟩, .string ⟨#[]⟩, .string ⟨#[]⟩, .int .i64 1, .int .i64 1, .int .i64 1, .string ⟨#[]⟩, .string ⟨#[]⟩, .string ⟨#[]⟩] HW4.out ?_; intro w5 hblk hfr; have HW5 : Hid (w5.heap[b6]? = some (.cells #[.int .i64 4, .slice none 0 0, .int .i64 1, .int .i64 1, .int .i64 1, .string ⟨#[]⟩, .string ⟨#[]⟩, .string ⟨#[]⟩, .int .i64 1, .int .i64 1, .int .i64 1, .string ⟨#[]⟩, .string ⟨#[]⟩, .string ⟨#[]⟩] 33 (0, 0))) := hblk; have HP5 : Hid (Hp w w5 [(w.heap.size, [.int .i64 cty, .int .i64 cco, .int .i64 cn, .int .i64 cwi, .int .i64 csi], 23), (w.heap.size + 1, [.int .i64 kd, .int .i64 dty, .int .i64 lg, .int .i64 nn, .int .i64 dl, .string tx, .bool cl], 25)]) := HP4.out.fr hfr (by have := HLT.out; omega) (fun i hi => by have := HLT.out; rcases i with _ | _ | i; (show w.heap.size ≠ b6; omega); (show w.heap.size + 1 ≠ b6; omega); exact absurd hi (by simp)); clear hblk hfr))
    go_meet
    case rel => exact ⟨4, none, 0, 0, 1, 1, 1, txt [], txt [], txt [], 1, 1, 1, txt [], txt [], txt [], HP5.out, HW5.out, by rw [HWZ.out]; exact fun _ _ => zBM 4 (numO 1) (numO 1)⟩
  . have d1 : (ck == 0) = false := by simpa using hz
    have HWZ : Hid (whN co j k = ⟨ck, csb, (⟨lk, lvk, lvi, lvt, lva, lfd⟩ : Opd), (⟨rk, rvk, rvi, rvt, rva, rfd⟩ : Opd)⟩) := by have h := HWN.out; rw [if_neg hz] at h; exact h
    clear HWN hz
    go_wp2_with fail
    go_meet
    case rel => exact ⟨ck, sp, sn, sc, lk, lvk, lvi, lvt, lva, lfd, rk, rvk, rvi, rvt, rva, rfd, HP2.out, HW2.out, by rw [HWZ.out]; exact HR2.out⟩
 case rest =>
  clear HP2 HW2 HR2 HWN c0
  clear ck sp sn sc lk lvk lvi lvt lva lfd rk rvk rvi rvt rva rfd
  obtain ⟨ck, sp, sn, sc, lk, lvk, lvi, lvt, lva, lfd, rk, rvk, rvi, rvt, rva, rfd, hp, hw, hr⟩ := hcut
  have HP2 := hid hp
  have HW2 := hid hw
  have HR2 := hid hr
  clear hp hw hr
  go_wp2_with (first
    | ((with_reducible show wpList _ _ _ (Oper.mk _ (.store 3 _ _) _ _ _ _ :: _) _ _); refine zBN 3 (w.heap.size + 1) 1 [.int .i64 kd, .int .i64 dty, .int .i64 lg, .int .i64 nn, .int .i64 dl, .string tx, .bool cl] 25 (.int .i64 (j : Nat)) [.int .i64 (j : Nat)] (HP2.out.b 1 (by simp)) ?_; intro w3 hblk hfr; have HP3 : Hid (Hp w w3 [(w.heap.size, [.int .i64 cty, .int .i64 cco, .int .i64 cn, .int .i64 cwi, .int .i64 csi], 23), (w.heap.size + 1, [.int .i64 kd, .int .i64 (j : Nat), .int .i64 lg, .int .i64 nn, .int .i64 dl, .string tx, .bool cl], 25)]) := (⟨zAO HP2.out.bel hfr (by omega), fun i hi => by rcases i with _ | _ | i; exact (hfr.block _ (zAE (HP2.out.b 0 (by simp))) (show w.heap.size ≠ w.heap.size + 1 by omega)).trans (HP2.out.b 0 (by simp)); exact hblk; exact absurd hi (by simp)⟩ : Hp w w3 [(w.heap.size, [.int .i64 cty, .int .i64 cco, .int .i64 cn, .int .i64 cwi, .int .i64 csi], 23), (w.heap.size + 1, [.int .i64 kd, .int .i64 (j : Nat), .int .i64 lg, .int .i64 nn, .int .i64 dl, .string tx, .bool cl], 25)]); have HW3 : Hid (w3.heap[b6]? = some (.cells #[.int .i64 ck, .slice sp sn sc, .int .i64 lk, .int .i64 lvk, .int .i64 lvi, .string lvt, .string lva, .string lfd, .int .i64 rk, .int .i64 rvk, .int .i64 rvi, .string rvt, .string rva, .string rfd] 33 (0, 0))) := (hfr.block b6 (zAE HW2.out) (by have := HLT.out; omega)).trans HW2.out; have HR3 : Hid (∀ W, (∀ i, w.heap.size + 2 ≤ i → i ≠ b6 → i < w3.heap.size → W.heap[i]? = w3.heap[i]?) → RdL W (encC (whN co j k)) [.int .i64 ck, .slice sp sn sc, .int .i64 lk, .int .i64 lvk, .int .i64 lvi, .string lvt, .string lva, .string lfd, .int .i64 rk, .int .i64 rvk, .int .i64 rvi, .string rvt, .string rva, .string rfd]) := (fun W hW => HR2.out W (fun i q1 q2 q3 => (hW i q1 q2 (Nat.lt_of_lt_of_le q3 hfr.size)).trans (hfr.block i q3 (by omega)))); clear hblk hfr)
    | ((with_reducible show wpList _ _ _ (Oper.mk (some 28) _ _ _ _ _ :: _) _ _); refine wpList_load_mid (by rfl) 25 _ (by rfl) (w.heap.size + 1) 0 (by rfl) [.int .i64 kd, .int .i64 (j : Nat), .int .i64 lg, .int .i64 nn, .int .i64 dl, .string tx, .bool cl] _ (HP3.out.r 1 (by simp)) Tryd.underlying25 rfl (by kernel_rfl) ?_)
    | (go_at_call 7; refine (HON.out _).mono ?_; rintro e w4 ⟨s0, t, u, ht, rfl, q1, q2, hR, hb⟩; obtain ⟨up, un, uc, rfl⟩ := zAB hR; have HE4 := hid (And.intro ht (And.intro q1 q2)); have HRE := hid hR; have HP4 := hid (HP3.out.next hb); have HW4 : Hid (w4.heap[b6]? = some (.cells #[.int .i64 ck, .slice sp sn sc, .int .i64 lk, .int .i64 lvk, .int .i64 lvi, .string lvt, .string lva, .string lfd, .int .i64 rk, .int .i64 rvk, .int .i64 rvi, .string rvt, .string rva, .string rfd] 33 (0, 0))) := (hb.block _ (zAE HW3.out)).trans HW3.out; have HR4 : Hid (∀ W, (∀ i, w.heap.size + 2 ≤ i → i ≠ b6 → i < w4.heap.size → W.heap[i]? = w4.heap[i]?) → RdL W (encC (whN co j k)) [.int .i64 ck, .slice sp sn sc, .int .i64 lk, .int .i64 lvk, .int .i64 lvi, .string lvt, .string lva, .string lfd, .int .i64 rk, .int .i64 rvk, .int .i64 rvi, .string rvt, .string rva, .string rfd]) := (fun W hW => HR3.out W (fun i p1 p2 p3 => (hW i p1 p2 (Nat.lt_of_lt_of_le p3 hb.size)).trans (hb.block i p3))); clear ht q1 q2 hR hb)
    | ((with_reducible show wpList _ _ _ (Oper.mk _ (.store 40 _ _) _ _ _ _ :: _) _ _); refine zA5 40 w4.heap.size 0 [.int .i64 0, .int .i64 0, .int .i64 0, .int .i64 0, .slice none 0 0] 40 [.int .i64 1, .int .i64 (j : Nat), .int .i64 s0, .int .i64 20, .slice up un uc] (heap_alloc_new _ _) ?_; intro w5 hblk hfr; have hb : Below w4.heap.size w4 w5 := zAH hfr; have HE5 : Hid (w5.heap[w4.heap.size]? = some (.cells #[.int .i64 1, .int .i64 (j : Nat), .int .i64 s0, .int .i64 20, .slice up un uc] 40 (0, 0))) := hblk; have HRE5 := hid (HRE.out.later hb); have HP5 := hid (HP4.out.next hb); have HW5 : Hid (w5.heap[b6]? = some (.cells #[.int .i64 ck, .slice sp sn sc, .int .i64 lk, .int .i64 lvk, .int .i64 lvi, .string lvt, .string lva, .string lfd, .int .i64 rk, .int .i64 rvk, .int .i64 rvi, .string rvt, .string rva, .string rfd] 33 (0, 0))) := (hb.block _ (zAE HW4.out)).trans HW4.out; have HR5 : Hid (∀ W, (∀ i, w.heap.size + 2 ≤ i → i ≠ b6 → i < w5.heap.size → W.heap[i]? = w5.heap[i]?) → RdL W (encC (whN co j k)) [.int .i64 ck, .slice sp sn sc, .int .i64 lk, .int .i64 lvk, .int .i64 lvi, .string lvt, .string lva, .string lfd, .int .i64 rk, .int .i64 rvk, .int .i64 rvi, .string rvt, .string rva, .string rfd]) := (fun W hW => HR4.out W (fun i p1 p2 p3 => (hW i p1 p2 (Nat.lt_of_lt_of_le p3 hb.size)).trans (hb.block i p3))); clear hblk hfr hb)
    | ((with_reducible show wpList _ _ _ (Oper.mk _ (.load 33 _) _ _ _ _ :: _) _ _); refine wpList_load_mid (by rfl) 33 _ (by rfl) b6 0 (by rfl) [.int .i64 ck, .slice sp sn sc, .int .i64 lk, .int .i64 lvk, .int .i64 lvi, .string lvt, .string lva, .string lfd, .int .i64 rk, .int .i64 rvk, .int .i64 rvi, .string rvt, .string rva, .string rfd] _ (zAJ (by first | exact (zAA (zAA (zAA Gc1.out Gc2.out Gc1.out.size) Gc3.out (Nat.le_trans Gc1.out.size Gc2.out.size)) (Below.refl _ _) (Nat.le_trans Gc1.out.size (Nat.le_trans Gc2.out.size Gc3.out.size))).block _ (zAE HW5.out) |>.trans HW5.out | exact ((zAA Gc1.out (Below.refl _ _) Gc1.out.size).block _ (zAE HW5.out)).trans HW5.out | exact HW5.out)) Tryd.underlying33 rfl (by kernel_rfl) ?_)
    | ((with_reducible show wpList _ _ _ (Oper.mk (some 32) _ _ _ _ _ :: _) _ _); refine zDJ (by rfl) 27 1 _ (by rfl) #[(0, .agg #[.int .i64 ck, .slice sp sn sc, .int .i64 lk, .int .i64 lvk, .int .i64 lvi, .string lvt, .string lva, .string lfd, .int .i64 rk, .int .i64 rvk, .int .i64 rvi, .string rvt, .string rva, .string rfd])] (by simp [Act.eval, Act.put]) [.int .i64 ck, .slice sp sn sc, .int .i64 lk, .int .i64 lvk, .int .i64 lvi, .string lvt, .string lva, .string lfd, .int .i64 rk, .int .i64 rvk, .int .i64 rvi, .string rvt, .string rva, .string rfd] 33 (fun w => by kernel_rfl) ?_; intro c1 y1 hc hb; have Hc1 := hid hc; have Gc1 := hid hb; clear hc hb)
    | ((with_reducible show wpList _ _ _ (Oper.mk (some 36) _ _ _ _ _ :: _) _ _); refine zDJ (by rfl) 27 1 _ (by rfl) #[(0, .agg #[.int .i64 ck, .slice sp sn sc, .int .i64 lk, .int .i64 lvk, .int .i64 lvi, .string lvt, .string lva, .string lfd, .int .i64 rk, .int .i64 rvk, .int .i64 rvi, .string rvt, .string rva, .string rfd])] (by simp [Act.eval, Act.put]) [.int .i64 ck, .slice sp sn sc, .int .i64 lk, .int .i64 lvk, .int .i64 lvi, .string lvt, .string lva, .string lfd, .int .i64 rk, .int .i64 rvk, .int .i64 rvi, .string rvt, .string rva, .string rfd] 33 (fun w => by kernel_rfl) ?_; intro c2 y2 hc hb; have Hc2 := hid hc; have Gc2 := hid hb; clear hc hb)
    | ((with_reducible show wpList _ _ _ (Oper.mk (some 38) _ _ _ _ _ :: _) _ _); refine zDJ (by rfl) 27 2 _ (by rfl) #[(0, .agg #[.int .i64 ck, .slice sp sn sc, .int .i64 lk, .int .i64 lvk, .int .i64 lvi, .string lvt, .string lva, .string lfd, .int .i64 rk, .int .i64 rvk, .int .i64 rvi, .string rvt, .string rva, .string rfd]), (1, .agg #[.int .i64 3, .slice (some ⟨c2, 0, none⟩) 1 1, .int .i64 0, .int .i64 0, .int .i64 0, .string ⟨#[]⟩, .string ⟨#[]⟩, .string ⟨#[]⟩, .int .i64 0, .int .i64 0, .int .i64 0, .string ⟨#[]⟩, .string ⟨#[]⟩, .string ⟨#[]⟩])] (by simp [Act.eval, Act.put]) [.int .i64 ck, .slice sp sn sc, .int .i64 lk, .int .i64 lvk, .int .i64 lvi, .string lvt, .string lva, .string lfd, .int .i64 rk, .int .i64 rvk, .int .i64 rvi, .string rvt, .string rva, .string rfd, .int .i64 3, .slice (some ⟨c2, 0, none⟩) 1 1, .int .i64 0, .int .i64 0, .int .i64 0, .string ⟨#[]⟩, .string ⟨#[]⟩, .string ⟨#[]⟩, .int .i64 0, .int .i64 0, .int .i64 0, .string ⟨#[]⟩, .string ⟨#[]⟩, .string ⟨#[]⟩] 33 (fun w => by kernel_rfl) ?_; intro c3 y3 hc hb; have Hc3 := hid hc; have Gc3 := hid hb; clear hc hb)
    | ((with_reducible show wpList _ _ _ (Oper.mk (some 42) _ _ _ _ _ :: _) _ _); refine zDJ (by rfl) 27 1 _ (by rfl) #[(0, .agg #[.int .i64 ck, .slice sp sn sc, .int .i64 lk, .int .i64 lvk, .int .i64 lvi, .string lvt, .string lva, .string lfd, .int .i64 rk, .int .i64 rvk, .int .i64 rvi, .string rvt, .string rva, .string rfd])] (by simp [Act.eval, Act.put]) [.int .i64 ck, .slice sp sn sc, .int .i64 lk, .int .i64 lvk, .int .i64 lvi, .string lvt, .string lva, .string lfd, .int .i64 rk, .int .i64 rvk, .int .i64 rvi, .string rvt, .string rva, .string rfd] 33 (fun w => by kernel_rfl) ?_; intro c4 y4 hc hb; have Hc4 := hid hc; have Gc4 := hid hb; clear hc hb)
    | ((with_reducible show wpList _ _ _ (Oper.mk (some 44) _ _ _ _ _ :: _) _ _); refine zDJ (by rfl) 27 2 _ (by rfl) #[(0, .agg #[.int .i64 ck, .slice sp sn sc, .int .i64 lk, .int .i64 lvk, .int .i64 lvi, .string lvt, .string lva, .string lfd, .int .i64 rk, .int .i64 rvk, .int .i64 rvi, .string rvt, .string rva, .string rfd]), (1, .agg #[.int .i64 3, .slice (some ⟨c4, 0, none⟩) 1 1, .int .i64 0, .int .i64 0, .int .i64 0, .string ⟨#[]⟩, .string ⟨#[]⟩, .string ⟨#[]⟩, .int .i64 0, .int .i64 0, .int .i64 0, .string ⟨#[]⟩, .string ⟨#[]⟩, .string ⟨#[]⟩])] (by simp [Act.eval, Act.put]) [.int .i64 ck, .slice sp sn sc, .int .i64 lk, .int .i64 lvk, .int .i64 lvi, .string lvt, .string lva, .string lfd, .int .i64 rk, .int .i64 rvk, .int .i64 rvi, .string rvt, .string rva, .string rfd, .int .i64 3, .slice (some ⟨c4, 0, none⟩) 1 1, .int .i64 0, .int .i64 0, .int .i64 0, .string ⟨#[]⟩, .string ⟨#[]⟩, .string ⟨#[]⟩, .int .i64 0, .int .i64 0, .int .i64 0, .string ⟨#[]⟩, .string ⟨#[]⟩, .string ⟨#[]⟩] 33 (fun w => by kernel_rfl) ?_; intro c5 y5 hc hb; have Hc5 := hid hc; have Gc5 := hid hb; clear hc hb)
    | ((with_reducible show wpList _ _ _ (Oper.mk (some 46) _ _ _ _ _ :: _) _ _); refine zDJ (by rfl) 27 4 _ (by rfl) #[(0, .agg #[.int .i64 ck, .slice sp sn sc, .int .i64 lk, .int .i64 lvk, .int .i64 lvi, .string lvt, .string lva, .string lfd, .int .i64 rk, .int .i64 rvk, .int .i64 rvi, .string rvt, .string rva, .string rfd]), (1, .agg #[.int .i64 3, .slice (some ⟨c1, 0, none⟩) 1 1, .int .i64 0, .int .i64 0, .int .i64 0, .string ⟨#[]⟩, .string ⟨#[]⟩, .string ⟨#[]⟩, .int .i64 0, .int .i64 0, .int .i64 0, .string ⟨#[]⟩, .string ⟨#[]⟩, .string ⟨#[]⟩]), (2, .agg #[.int .i64 1, .slice (some ⟨c3, 0, none⟩) 2 2, .int .i64 0, .int .i64 0, .int .i64 0, .string ⟨#[]⟩, .string ⟨#[]⟩, .string ⟨#[]⟩, .int .i64 0, .int .i64 0, .int .i64 0, .string ⟨#[]⟩, .string ⟨#[]⟩, .string ⟨#[]⟩]), (3, .agg #[.int .i64 2, .slice (some ⟨c5, 0, none⟩) 2 2, .int .i64 0, .int .i64 0, .int .i64 0, .string ⟨#[]⟩, .string ⟨#[]⟩, .string ⟨#[]⟩, .int .i64 0, .int .i64 0, .int .i64 0, .string ⟨#[]⟩, .string ⟨#[]⟩, .string ⟨#[]⟩])] (by simp [Act.eval, Act.put]) [.int .i64 ck, .slice sp sn sc, .int .i64 lk, .int .i64 lvk, .int .i64 lvi, .string lvt, .string lva, .string lfd, .int .i64 rk, .int .i64 rvk, .int .i64 rvi, .string rvt, .string rva, .string rfd, .int .i64 3, .slice (some ⟨c1, 0, none⟩) 1 1, .int .i64 0, .int .i64 0, .int .i64 0, .string ⟨#[]⟩, .string ⟨#[]⟩, .string ⟨#[]⟩, .int .i64 0, .int .i64 0, .int .i64 0, .string ⟨#[]⟩, .string ⟨#[]⟩, .string ⟨#[]⟩, .int .i64 1, .slice (some ⟨c3, 0, none⟩) 2 2, .int .i64 0, .int .i64 0, .int .i64 0, .string ⟨#[]⟩, .string ⟨#[]⟩, .string ⟨#[]⟩, .int .i64 0, .int .i64 0, .int .i64 0, .string ⟨#[]⟩, .string ⟨#[]⟩, .string ⟨#[]⟩, .int .i64 2, .slice (some ⟨c5, 0, none⟩) 2 2, .int .i64 0, .int .i64 0, .int .i64 0, .string ⟨#[]⟩, .string ⟨#[]⟩, .string ⟨#[]⟩, .int .i64 0, .int .i64 0, .int .i64 0, .string ⟨#[]⟩, .string ⟨#[]⟩, .string ⟨#[]⟩] 33 (fun w => by kernel_rfl) ?_; intro c6 y6 hc hb; have Hc6 := hid hc; have Gc6 := hid hb; clear hc hb))
  have b56 := Gc6.out
  have b46 := zAA Gc5.out b56 Gc5.out.size
  have b36 := zAA Gc4.out b46 Gc4.out.size
  have b26 := zAA Gc3.out b36 Gc3.out.size
  have b16 := zAA Gc2.out b26 Gc2.out.size
  have b06 := zAA Gc1.out b16 Gc1.out.size
  have k0r : RdL y6 (encC (whN co j k)) [.int .i64 ck, .slice sp sn sc, .int .i64 lk, .int .i64 lvk, .int .i64 lvi, .string lvt, .string lva, .string lfd, .int .i64 rk, .int .i64 rvk, .int .i64 rvi, .string rvt, .string rva, .string rfd] := HR5.out y6 (fun i q1 q2 q3 => b06.block i q3)
  have n1r : RdL y6 (encC (ntC (whN co j k))) [.int .i64 3, .slice (some ⟨c1, 0, none⟩) 1 1, .int .i64 0, .int .i64 0, .int .i64 0, .string ⟨#[]⟩, .string ⟨#[]⟩, .string ⟨#[]⟩, .int .i64 0, .int .i64 0, .int .i64 0, .string ⟨#[]⟩, .string ⟨#[]⟩, .string ⟨#[]⟩] := .cons (.lit _) (.cons (zA8 (l := [(whN co j k)].map encC) ((b16.block _ (zAE Hc1.out)).trans Hc1.out) (by simp) (by simp [maxLen]) (zEK k0r)) (zAT [.int .i64 0, .int .i64 0, .int .i64 0, .string ⟨#[]⟩, .string ⟨#[]⟩, .string ⟨#[]⟩, .int .i64 0, .int .i64 0, .int .i64 0, .string ⟨#[]⟩, .string ⟨#[]⟩, .string ⟨#[]⟩]))
  have n2r : RdL y6 (encC (ntC (whN co j k))) [.int .i64 3, .slice (some ⟨c2, 0, none⟩) 1 1, .int .i64 0, .int .i64 0, .int .i64 0, .string ⟨#[]⟩, .string ⟨#[]⟩, .string ⟨#[]⟩, .int .i64 0, .int .i64 0, .int .i64 0, .string ⟨#[]⟩, .string ⟨#[]⟩, .string ⟨#[]⟩] := .cons (.lit _) (.cons (zA8 (l := [(whN co j k)].map encC) ((b26.block _ (zAE Hc2.out)).trans Hc2.out) (by simp) (by simp [maxLen]) (zEK k0r)) (zAT [.int .i64 0, .int .i64 0, .int .i64 0, .string ⟨#[]⟩, .string ⟨#[]⟩, .string ⟨#[]⟩, .int .i64 0, .int .i64 0, .int .i64 0, .string ⟨#[]⟩, .string ⟨#[]⟩, .string ⟨#[]⟩]))
  have n4r : RdL y6 (encC (ntC (whN co j k))) [.int .i64 3, .slice (some ⟨c4, 0, none⟩) 1 1, .int .i64 0, .int .i64 0, .int .i64 0, .string ⟨#[]⟩, .string ⟨#[]⟩, .string ⟨#[]⟩, .int .i64 0, .int .i64 0, .int .i64 0, .string ⟨#[]⟩, .string ⟨#[]⟩, .string ⟨#[]⟩] := .cons (.lit _) (.cons (zA8 (l := [(whN co j k)].map encC) ((b46.block _ (zAE Hc4.out)).trans Hc4.out) (by simp) (by simp [maxLen]) (zEK k0r)) (zAT [.int .i64 0, .int .i64 0, .int .i64 0, .string ⟨#[]⟩, .string ⟨#[]⟩, .string ⟨#[]⟩, .int .i64 0, .int .i64 0, .int .i64 0, .string ⟨#[]⟩, .string ⟨#[]⟩, .string ⟨#[]⟩]))
  have a3r : RdL y6 (encC (grpC 1 [(whN co j k), ntC (whN co j k)])) [.int .i64 1, .slice (some ⟨c3, 0, none⟩) 2 2, .int .i64 0, .int .i64 0, .int .i64 0, .string ⟨#[]⟩, .string ⟨#[]⟩, .string ⟨#[]⟩, .int .i64 0, .int .i64 0, .int .i64 0, .string ⟨#[]⟩, .string ⟨#[]⟩, .string ⟨#[]⟩] := .cons (.lit _) (.cons (zA8 (l := [(whN co j k), ntC (whN co j k)].map encC) ((b36.block _ (zAE Hc3.out)).trans Hc3.out) (by simp) (by simp [maxLen]) (zBO k0r (zEK n2r))) (zAT [.int .i64 0, .int .i64 0, .int .i64 0, .string ⟨#[]⟩, .string ⟨#[]⟩, .string ⟨#[]⟩, .int .i64 0, .int .i64 0, .int .i64 0, .string ⟨#[]⟩, .string ⟨#[]⟩, .string ⟨#[]⟩]))
  have o5r : RdL y6 (encC (grpC 2 [(whN co j k), ntC (whN co j k)])) [.int .i64 2, .slice (some ⟨c5, 0, none⟩) 2 2, .int .i64 0, .int .i64 0, .int .i64 0, .string ⟨#[]⟩, .string ⟨#[]⟩, .string ⟨#[]⟩, .int .i64 0, .int .i64 0, .int .i64 0, .string ⟨#[]⟩, .string ⟨#[]⟩, .string ⟨#[]⟩] := .cons (.lit _) (.cons (zA8 (l := [(whN co j k), ntC (whN co j k)].map encC) ((b56.block _ (zAE Hc5.out)).trans Hc5.out) (by simp) (by simp [maxLen]) (zBO k0r (zEK n4r))) (zAT [.int .i64 0, .int .i64 0, .int .i64 0, .string ⟨#[]⟩, .string ⟨#[]⟩, .string ⟨#[]⟩, .int .i64 0, .int .i64 0, .int .i64 0, .string ⟨#[]⟩, .string ⟨#[]⟩, .string ⟨#[]⟩]))
  have hc6 := Hc6.out
  have HROW : Hid (∀ q, q < 4 → ∃ A : List Value, (∀ W, Below y6.heap.size y6 W → W.rangeAt c6 (q * 14) A) ∧ RdL y6 (encC (cds (whN co j k) q)) A) := hid fun q hq => by
    have hin : ∀ (m : Nat) (Cx Bx : List Value), [.int .i64 ck, .slice sp sn sc, .int .i64 lk, .int .i64 lvk, .int .i64 lvi, .string lvt, .string lva, .string lfd, .int .i64 rk, .int .i64 rvk, .int .i64 rvi, .string rvt, .string rva, .string rfd, .int .i64 3, .slice (some ⟨c1, 0, none⟩) 1 1, .int .i64 0, .int .i64 0, .int .i64 0, .string ⟨#[]⟩, .string ⟨#[]⟩, .string ⟨#[]⟩, .int .i64 0, .int .i64 0, .int .i64 0, .string ⟨#[]⟩, .string ⟨#[]⟩, .string ⟨#[]⟩, .int .i64 1, .slice (some ⟨c3, 0, none⟩) 2 2, .int .i64 0, .int .i64 0, .int .i64 0, .string ⟨#[]⟩, .string ⟨#[]⟩, .string ⟨#[]⟩, .int .i64 0, .int .i64 0, .int .i64 0, .string ⟨#[]⟩, .string ⟨#[]⟩, .string ⟨#[]⟩, .int .i64 2, .slice (some ⟨c5, 0, none⟩) 2 2, .int .i64 0, .int .i64 0, .int .i64 0, .string ⟨#[]⟩, .string ⟨#[]⟩, .string ⟨#[]⟩, .int .i64 0, .int .i64 0, .int .i64 0, .string ⟨#[]⟩, .string ⟨#[]⟩, .string ⟨#[]⟩] = Cx ++ Bx → Cx.length = m → ∀ W, Below y6.heap.size y6 W → W.rangeAt c6 m (Bx.take 14) := fun m Cx Bx e1 e2 W hW => zBX (A := [.int .i64 ck, .slice sp sn sc, .int .i64 lk, .int .i64 lvk, .int .i64 lvi, .string lvt, .string lva, .string lfd, .int .i64 rk, .int .i64 rvk, .int .i64 rvi, .string rvt, .string rva, .string rfd, .int .i64 3, .slice (some ⟨c1, 0, none⟩) 1 1, .int .i64 0, .int .i64 0, .int .i64 0, .string ⟨#[]⟩, .string ⟨#[]⟩, .string ⟨#[]⟩, .int .i64 0, .int .i64 0, .int .i64 0, .string ⟨#[]⟩, .string ⟨#[]⟩, .string ⟨#[]⟩, .int .i64 1, .slice (some ⟨c3, 0, none⟩) 2 2, .int .i64 0, .int .i64 0, .int .i64 0, .string ⟨#[]⟩, .string ⟨#[]⟩, .string ⟨#[]⟩, .int .i64 0, .int .i64 0, .int .i64 0, .string ⟨#[]⟩, .string ⟨#[]⟩, .string ⟨#[]⟩, .int .i64 2, .slice (some ⟨c5, 0, none⟩) 2 2, .int .i64 0, .int .i64 0, .int .i64 0, .string ⟨#[]⟩, .string ⟨#[]⟩, .string ⟨#[]⟩, .int .i64 0, .int .i64 0, .int .i64 0, .string ⟨#[]⟩, .string ⟨#[]⟩, .string ⟨#[]⟩]) (t := 33) ((hW.block _ (zAE hc6)).trans hc6) (C := Cx) (B := Bx) e1 e2 14
    rcases (by omega : q = 0 ∨ q = 1 ∨ q = 2 ∨ q = 3) with rfl | rfl | rfl | rfl
    . exact ⟨[.int .i64 ck, .slice sp sn sc, .int .i64 lk, .int .i64 lvk, .int .i64 lvi, .string lvt, .string lva, .string lfd, .int .i64 rk, .int .i64 rvk, .int .i64 rvi, .string rvt, .string rva, .string rfd], fun W hW => (by have h9 := hin 0 [] [.int .i64 ck, .slice sp sn sc, .int .i64 lk, .int .i64 lvk, .int .i64 lvi, .string lvt, .string lva, .string lfd, .int .i64 rk, .int .i64 rvk, .int .i64 rvi, .string rvt, .string rva, .string rfd, .int .i64 3, .slice (some ⟨c1, 0, none⟩) 1 1, .int .i64 0, .int .i64 0, .int .i64 0, .string ⟨#[]⟩, .string ⟨#[]⟩, .string ⟨#[]⟩, .int .i64 0, .int .i64 0, .int .i64 0, .string ⟨#[]⟩, .string ⟨#[]⟩, .string ⟨#[]⟩, .int .i64 1, .slice (some ⟨c3, 0, none⟩) 2 2, .int .i64 0, .int .i64 0, .int .i64 0, .string ⟨#[]⟩, .string ⟨#[]⟩, .string ⟨#[]⟩, .int .i64 0, .int .i64 0, .int .i64 0, .string ⟨#[]⟩, .string ⟨#[]⟩, .string ⟨#[]⟩, .int .i64 2, .slice (some ⟨c5, 0, none⟩) 2 2, .int .i64 0, .int .i64 0, .int .i64 0, .string ⟨#[]⟩, .string ⟨#[]⟩, .string ⟨#[]⟩, .int .i64 0, .int .i64 0, .int .i64 0, .string ⟨#[]⟩, .string ⟨#[]⟩, .string ⟨#[]⟩] rfl rfl W hW; exact h9), k0r⟩
    . exact ⟨[.int .i64 3, .slice (some ⟨c1, 0, none⟩) 1 1, .int .i64 0, .int .i64 0, .int .i64 0, .string ⟨#[]⟩, .string ⟨#[]⟩, .string ⟨#[]⟩, .int .i64 0, .int .i64 0, .int .i64 0, .string ⟨#[]⟩, .string ⟨#[]⟩, .string ⟨#[]⟩], fun W hW => (by have h9 := hin 14 [.int .i64 ck, .slice sp sn sc, .int .i64 lk, .int .i64 lvk, .int .i64 lvi, .string lvt, .string lva, .string lfd, .int .i64 rk, .int .i64 rvk, .int .i64 rvi, .string rvt, .string rva, .string rfd] [.int .i64 3, .slice (some ⟨c1, 0, none⟩) 1 1, .int .i64 0, .int .i64 0, .int .i64 0, .string ⟨#[]⟩, .string ⟨#[]⟩, .string ⟨#[]⟩, .int .i64 0, .int .i64 0, .int .i64 0, .string ⟨#[]⟩, .string ⟨#[]⟩, .string ⟨#[]⟩, .int .i64 1, .slice (some ⟨c3, 0, none⟩) 2 2, .int .i64 0, .int .i64 0, .int .i64 0, .string ⟨#[]⟩, .string ⟨#[]⟩, .string ⟨#[]⟩, .int .i64 0, .int .i64 0, .int .i64 0, .string ⟨#[]⟩, .string ⟨#[]⟩, .string ⟨#[]⟩, .int .i64 2, .slice (some ⟨c5, 0, none⟩) 2 2, .int .i64 0, .int .i64 0, .int .i64 0, .string ⟨#[]⟩, .string ⟨#[]⟩, .string ⟨#[]⟩, .int .i64 0, .int .i64 0, .int .i64 0, .string ⟨#[]⟩, .string ⟨#[]⟩, .string ⟨#[]⟩] rfl rfl W hW; exact h9), n1r⟩
    . exact ⟨[.int .i64 1, .slice (some ⟨c3, 0, none⟩) 2 2, .int .i64 0, .int .i64 0, .int .i64 0, .string ⟨#[]⟩, .string ⟨#[]⟩, .string ⟨#[]⟩, .int .i64 0, .int .i64 0, .int .i64 0, .string ⟨#[]⟩, .string ⟨#[]⟩, .string ⟨#[]⟩], fun W hW => (by have h9 := hin 28 [.int .i64 ck, .slice sp sn sc, .int .i64 lk, .int .i64 lvk, .int .i64 lvi, .string lvt, .string lva, .string lfd, .int .i64 rk, .int .i64 rvk, .int .i64 rvi, .string rvt, .string rva, .string rfd, .int .i64 3, .slice (some ⟨c1, 0, none⟩) 1 1, .int .i64 0, .int .i64 0, .int .i64 0, .string ⟨#[]⟩, .string ⟨#[]⟩, .string ⟨#[]⟩, .int .i64 0, .int .i64 0, .int .i64 0, .string ⟨#[]⟩, .string ⟨#[]⟩, .string ⟨#[]⟩] [.int .i64 1, .slice (some ⟨c3, 0, none⟩) 2 2, .int .i64 0, .int .i64 0, .int .i64 0, .string ⟨#[]⟩, .string ⟨#[]⟩, .string ⟨#[]⟩, .int .i64 0, .int .i64 0, .int .i64 0, .string ⟨#[]⟩, .string ⟨#[]⟩, .string ⟨#[]⟩, .int .i64 2, .slice (some ⟨c5, 0, none⟩) 2 2, .int .i64 0, .int .i64 0, .int .i64 0, .string ⟨#[]⟩, .string ⟨#[]⟩, .string ⟨#[]⟩, .int .i64 0, .int .i64 0, .int .i64 0, .string ⟨#[]⟩, .string ⟨#[]⟩, .string ⟨#[]⟩] rfl rfl W hW; exact h9), a3r⟩
    . exact ⟨[.int .i64 2, .slice (some ⟨c5, 0, none⟩) 2 2, .int .i64 0, .int .i64 0, .int .i64 0, .string ⟨#[]⟩, .string ⟨#[]⟩, .string ⟨#[]⟩, .int .i64 0, .int .i64 0, .int .i64 0, .string ⟨#[]⟩, .string ⟨#[]⟩, .string ⟨#[]⟩], fun W hW => (by have h9 := hin 42 [.int .i64 ck, .slice sp sn sc, .int .i64 lk, .int .i64 lvk, .int .i64 lvi, .string lvt, .string lva, .string lfd, .int .i64 rk, .int .i64 rvk, .int .i64 rvi, .string rvt, .string rva, .string rfd, .int .i64 3, .slice (some ⟨c1, 0, none⟩) 1 1, .int .i64 0, .int .i64 0, .int .i64 0, .string ⟨#[]⟩, .string ⟨#[]⟩, .string ⟨#[]⟩, .int .i64 0, .int .i64 0, .int .i64 0, .string ⟨#[]⟩, .string ⟨#[]⟩, .string ⟨#[]⟩, .int .i64 1, .slice (some ⟨c3, 0, none⟩) 2 2, .int .i64 0, .int .i64 0, .int .i64 0, .string ⟨#[]⟩, .string ⟨#[]⟩, .string ⟨#[]⟩, .int .i64 0, .int .i64 0, .int .i64 0, .string ⟨#[]⟩, .string ⟨#[]⟩, .string ⟨#[]⟩] [.int .i64 2, .slice (some ⟨c5, 0, none⟩) 2 2, .int .i64 0, .int .i64 0, .int .i64 0, .string ⟨#[]⟩, .string ⟨#[]⟩, .string ⟨#[]⟩, .int .i64 0, .int .i64 0, .int .i64 0, .string ⟨#[]⟩, .string ⟨#[]⟩, .string ⟨#[]⟩] rfl rfl W hW; exact h9), o5r⟩
  have HE6 : Hid (y6.heap[w4.heap.size]? = some (.cells #[.int .i64 1, .int .i64 (j : Nat), .int .i64 s0, .int .i64 20, .slice up un uc] 40 (0, 0))) := (b06.block _ (zAE HE5.out)).trans HE5.out
  have HRE6 := hid (HRE5.out.later b06)
  have HBL6 : Hid (Below w.heap.size w y6) := zAA HP5.out.bel b06 HP5.out.bel.size
  generalize w4.heap.size = b7 at HE6 ⊢
  clear b56 b46 b36 b26 b16 b06 k0r n1r n2r n4r a3r o5r hc6 Hc1 Hc2 Hc3 Hc4 Hc5 Hc6 Gc1 Gc2 Gc3 Gc4 Gc5 Gc6 HE5 HRE5 HP5 HW5 HR5 HP4 HW4 HR4 HRE HP3 HW3 HR3 HP2 HW2 HR2 HON HLT
  obtain ⟨g, hg⟩ : ∃ g : Nat → Bool, ∀ q, hld kts [] (⟨1, (j : Nat), s0, 20, vls j q6 t⟩ : Ev) [] 8 (cds (whN co j k) q) = g q := ⟨_, fun _ => rfl⟩
  have HG := hid hg
  clear hg
  go_loopg [8, 48] 5 (fun gg v i wr => ∃ (q : Nat) (pv : Option Addr) (cv : Nat), q ≤ 4 ∧ gg = 5 - q ∧ i = .int .i64 (q : Nat) ∧ v = .slice pv q cv ∧ Below y6.heap.size y6 wr ∧ wr.ownsRow y6.heap.size 4 1 (.slice pv q cv) q ((List.range q).map fun x => Value.bool (g x)))
  case atStart => exact ⟨0, none, 0, by omega, by omega, rfl, rfl, Below.refl _ _, World.ownsRow_nil _ _ _ _⟩
  case round =>
    obtain ⟨q, pv, cv, hq, rfl, rfl, rfl, hB, hO⟩ := hrel
    have HB := hid hB
    have HO := hid hO
    by_cases hlt : q < 4
    . obtain ⟨A, hA1, hA2⟩ := HROW.out q hlt
      obtain ⟨sv, hA, hrv⟩ := rdCq hA2
      obtain ⟨ap, an, ac, rfl⟩ := zAB hrv
      obtain ⟨cq, hcq⟩ : ∃ c, cds (whN co j k) q = c := ⟨_, rfl⟩
      rw [hcq] at hA hA2
      clear hrv
      obtain ⟨ak, asb, ⟨xk, xvk, xvi, xvt, xva, xfd⟩, ⟨zk, zvk, zvi, zvt, zva, zfd⟩⟩ := cq
      subst hA
      have XA : Hid (wr.rangeAt c6 (q * 14) [.int .i64 ak, .slice ap an ac, .int .i64 xk, .int .i64 xvk, .int .i64 xvi, .string xvt, .string xva, .string xfd, .int .i64 zk, .int .i64 zvk, .int .i64 zvi, .string zvt, .string zva, .string zfd]) := hA1 wr hB
      have HRA : Hid (RdL y6 (encC ⟨ak, asb, (⟨xk, xvk, xvi, xvt, xva, xfd⟩ : Opd), (⟨zk, zvk, zvi, zvt, zva, zfd⟩ : Opd)⟩) [.int .i64 ak, .slice ap an ac, .int .i64 xk, .int .i64 xvk, .int .i64 xvi, .string xvt, .string xva, .string xfd, .int .i64 zk, .int .i64 zvk, .int .i64 zvi, .string zvt, .string zva, .string zfd]) := hA2
      have HCQ := hid hcq
      have i1 : (0 : Int) ≤ (q : Int) := by omega
      have i2 : (q : Int) < 4 := by omega
      clear hA1 hA2 hcq hB hO
      go_wp2_with (first
       | ((with_reducible show wpList _ _ _ (Oper.mk (some 51) _ _ _ _ _ :: _) _ _); refine wpList_load_mid (by rfl) 33 _ (by rfl) c6 (q * 14) (by rfl) [.int .i64 ak, .slice ap an ac, .int .i64 xk, .int .i64 xvk, .int .i64 xvi, .string xvt, .string xva, .string xfd, .int .i64 zk, .int .i64 zvk, .int .i64 zvi, .string zvt, .string zva, .string zfd] _ XA.out Tryd.underlying33 rfl (by kernel_rfl) ?_)
       | ((with_reducible show wpList _ _ _ (Oper.mk _ (.store 33 _ _) _ _ _ _ :: _) _ _); refine zA5 33 wr.heap.size 0 [.int .i64 0, .slice none 0 0, .int .i64 0, .int .i64 0, .int .i64 0, .string ⟨#[]⟩, .string ⟨#[]⟩, .string ⟨#[]⟩, .int .i64 0, .int .i64 0, .int .i64 0, .string ⟨#[]⟩, .string ⟨#[]⟩, .string ⟨#[]⟩] 33 [.int .i64 ak, .slice ap an ac, .int .i64 xk, .int .i64 xvk, .int .i64 xvi, .string xvt, .string xva, .string xfd, .int .i64 zk, .int .i64 zvk, .int .i64 zvi, .string zvt, .string zva, .string zfd] (heap_alloc_new _ _) ?_; intro wa hblk hfr; have hb : Below wr.heap.size wr wa := zAH hfr; have H10 : Hid (wa.heap[wr.heap.size]? = some (.cells #[.int .i64 ak, .slice ap an ac, .int .i64 xk, .int .i64 xvk, .int .i64 xvi, .string xvt, .string xva, .string xfd, .int .i64 zk, .int .i64 zvk, .int .i64 zvi, .string zvt, .string zva, .string zfd] 33 (0, 0))) := hblk; have HBA := hid (zAA HB.out hb HB.out.size); have HOA := hid (zA4 HO.out fun i hi => hb.block i (zAL HO.out hi).2); have HL10 : Hid (wr.heap.size < wa.heap.size) := (show wr.heap.size < wa.heap.size from zAE hblk); clear hblk hfr hb))
      generalize wr.heap.size = b10 at H10 HL10 ⊢
      have HPA : Hid (Hp wa wa.drew [(b10, [.int .i64 ak, .slice ap an ac, .int .i64 xk, .int .i64 xvk, .int .i64 xvi, .string xvt, .string xva, .string xfd, .int .i64 zk, .int .i64 zvk, .int .i64 zvi, .string zvt, .string zva, .string zfd], 33)]) := (⟨Below.drew (Below.refl _ _), fun i hi => by rcases i with _ | i; exact H10.out; exact absurd hi (by simp)⟩ : Hp wa wa.drew [(b10, [.int .i64 ak, .slice ap an ac, .int .i64 xk, .int .i64 xvk, .int .i64 xvi, .string xvt, .string xva, .string xfd, .int .i64 zk, .int .i64 zvk, .int .i64 zvi, .string zvt, .string zva, .string zfd], 33)])
      clear HB HO XA
      refine zAV (by kernel_rfl) (fun i w9 v => ([(fun w9 v => ∃ (b : Nat), v = .slice (some ⟨b + 4, 0, none⟩) 5 5 ∧ Tys w9 b), (fun w9 v => ∃ (b : Nat), v = .slice (some ⟨b, 0, none⟩) 4 4 ∧ w9.heap[b]? = some (.cells #[.string ⟨#[97]⟩, .string ⟨#[98]⟩, .string ⟨#[99]⟩, .string ⟨#[100]⟩] 9 (0, 0))), (fun w9 v => v = .int .i64 (j : Nat)), (fun w9 v => ∃ (b : Nat), v = .pointer (some ⟨b, j, none⟩) ∧ w9.heap[b]? = some (.cells #[.string ⟨#[97]⟩, .string ⟨#[98]⟩, .string ⟨#[99]⟩, .string ⟨#[100]⟩] 9 (0, 0))), (fun w9 v => v = .string (tyN j)), (fun w9 v => v = .agg #[.int .i64 ak, .slice ap an ac, .int .i64 xk, .int .i64 xvk, .int .i64 xvi, .string xvt, .string xva, .string xfd, .int .i64 zk, .int .i64 zvk, .int .i64 zvi, .string zvt, .string zva, .string zfd]), (fun w9 v => v = .agg #[.string ⟨#[120]⟩, .string (tyN j), .int .i64 ak, .slice ap an ac, .int .i64 xk, .int .i64 xvk, .int .i64 xvi, .string xvt, .string xva, .string xfd, .int .i64 zk, .int .i64 zvk, .int .i64 zvi, .string zvt, .string zva, .string zfd, .int .i64 0, .int .i64 0]), (fun w9 v => ∃ (b1 : Nat), v = .slice (some ⟨b1, 0, none⟩) 1 1 ∧ w9.heap[b1]? = some (.cells #[.string ⟨#[120]⟩, .string (tyN j), .int .i64 ak, .slice ap an ac, .int .i64 xk, .int .i64 xvk, .int .i64 xvi, .string xvt, .string xva, .string xfd, .int .i64 zk, .int .i64 zvk, .int .i64 zvi, .string zvt, .string zva, .string zfd, .int .i64 0, .int .i64 0] 47 (0, 0))), (fun w9 v => ∃ (b1 : Nat), v = .agg #[.string ⟨#[114]⟩, .slice (some ⟨b1, 0, none⟩) 1 1, .slice none 0 0, .slice none 0 0, .slice none 0 0, .string ⟨#[]⟩, .slice none 0 0] ∧ w9.heap[b1]? = some (.cells #[.string ⟨#[120]⟩, .string (tyN j), .int .i64 ak, .slice ap an ac, .int .i64 xk, .int .i64 xvk, .int .i64 xvi, .string xvt, .string xva, .string xfd, .int .i64 zk, .int .i64 zvk, .int .i64 zvi, .string zvt, .string zva, .string zfd, .int .i64 0, .int .i64 0] 47 (0, 0))), (fun w9 v => ∃ (b1 b2 : Nat), v = .slice (some ⟨b2, 0, none⟩) 1 1 ∧ w9.heap[b1]? = some (.cells #[.string ⟨#[120]⟩, .string (tyN j), .int .i64 ak, .slice ap an ac, .int .i64 xk, .int .i64 xvk, .int .i64 xvi, .string xvt, .string xva, .string xfd, .int .i64 zk, .int .i64 zvk, .int .i64 zvi, .string zvt, .string zva, .string zfd, .int .i64 0, .int .i64 0] 47 (0, 0)) ∧ w9.heap[b2]? = some (.cells #[.string ⟨#[114]⟩, .slice (some ⟨b1, 0, none⟩) 1 1, .slice none 0 0, .slice none 0 0, .slice none 0 0, .string ⟨#[]⟩, .slice none 0 0] 55 (0, 0))), (fun w9 v => ∃ (b b1 b2 : Nat), v = .agg #[.slice (some ⟨b + 4, 0, none⟩) 5 5, .slice (some ⟨b2, 0, none⟩) 1 1] ∧ Tys w9 b ∧ w9.heap[b1]? = some (.cells #[.string ⟨#[120]⟩, .string (tyN j), .int .i64 ak, .slice ap an ac, .int .i64 xk, .int .i64 xvk, .int .i64 xvi, .string xvt, .string xva, .string xfd, .int .i64 zk, .int .i64 zvk, .int .i64 zvi, .string zvt, .string zva, .string zfd, .int .i64 0, .int .i64 0] 47 (0, 0)) ∧ w9.heap[b2]? = some (.cells #[.string ⟨#[114]⟩, .slice (some ⟨b1, 0, none⟩) 1 1, .slice none 0 0, .slice none 0 0, .slice none 0 0, .string ⟨#[]⟩, .slice none 0 0] 55 (0, 0))), (fun w9 v => ∃ (c : Nat), v = .pointer (some ⟨c, 0, none⟩) ∧ w9.heap[c]? = some (.cells #[.slice none 0 0, .slice none 0 0] 58 (0, 0)) ∧ wa.heap.size ≤ c)] : List (World → Value → Prop)).getD i (fun _ _ => True) w9 v) (fun W => Hp wa W [(b10, [.int .i64 ak, .slice ap an ac, .int .i64 xk, .int .i64 xvk, .int .i64 xvi, .string xvt, .string xva, .string xfd, .int .i64 zk, .int .i64 zvk, .int .i64 zvi, .string zvt, .string zva, .string zfd], 33)]) 94 12 rfl rfl (by kernel_rfl) (by kernel_rfl) (fun W W' => Below W.heap.size W W') ?hmon (HPA.out) (zAF.cons ?o0 (zAF.cons ?o1 (zAF.cons ?o2 (zAF.cons ?o3 (zAF.cons ?o4 (zAF.cons ?o5 (zAF.cons ?o6 (zAF.cons ?o7 (zAF.cons ?o8 (zAF.cons ?o9 (zAF.cons ?o10 (zAF.cons ?o11 zAF.nil)))))))))))) ?hend
      case hmon =>
       intro q W W' v hb h
       rcases q with _ | _ | _ | _ | _ | _ | _ | _ | _ | _ | _ | _ | q
       . obtain ⟨b, e, h1⟩ := h; exact ⟨b, e, h1.later (fun i o hi _ _ => (hb.block i (zAE hi)).trans hi)⟩
       . obtain ⟨b, e, h1⟩ := h; exact ⟨b, e, (hb.block _ (zAE h1)).trans h1⟩
       . exact h
       . obtain ⟨b, e, h1⟩ := h; exact ⟨b, e, (hb.block _ (zAE h1)).trans h1⟩
       . exact h
       . exact h
       . exact h
       . obtain ⟨b, e, h1⟩ := h; exact ⟨b, e, (hb.block _ (zAE h1)).trans h1⟩
       . obtain ⟨b, e, h1⟩ := h; exact ⟨b, e, (hb.block _ (zAE h1)).trans h1⟩
       . obtain ⟨b, c, e, h1, h2⟩ := h; exact ⟨b, c, e, (hb.block _ (zAE h1)).trans h1, (hb.block _ (zAE h2)).trans h2⟩
       . obtain ⟨d, b, c, e, h0, h1, h2⟩ := h; exact ⟨d, b, c, e, h0.later (fun i o hi _ _ => (hb.block i (zAE hi)).trans hi), (hb.block _ (zAE h1)).trans h1, (hb.block _ (zAE h2)).trans h2⟩
       . obtain ⟨b, e, h1, h2⟩ := h; exact ⟨b, e, (hb.block _ (zAE h1)).trans h1, h2⟩
       . exact h
      case o0 =>
       intro a W hB hd ho
       refine zB9 8 ent_ty _ _ rfl #[] (by simp) _ (zHT W) ?_
       rintro e W' ⟨b, rfl, hle, hT, hb⟩
       exact ⟨_, rfl, _, rfl, ⟨b, rfl, hT⟩, hB.next hb, hb⟩
      case o1 =>
       intro a W hB hd ho
       have hal : Below W.heap.size W (W.alloc (.cells #[.string ⟨#[97]⟩, .string ⟨#[98]⟩, .string ⟨#[99]⟩, .string ⟨#[100]⟩] 9)) := (Below.refl _ _).alloc (Nat.le_refl _) _
       refine zDZ 45 4 _ rfl #[(0, .string ⟨#[97]⟩), (1, .string ⟨#[98]⟩), (2, .string ⟨#[99]⟩), (3, .string ⟨#[100]⟩)] (by simp [ev_c]) (.slice (some ⟨W.heap.size, 0, none⟩) 4 4) (W.alloc (.cells #[.string ⟨#[97]⟩, .string ⟨#[98]⟩, .string ⟨#[99]⟩, .string ⟨#[100]⟩] 9)) (by kernel_rfl) ⟨_, rfl, ⟨W.heap.size, rfl, heap_alloc_new _ _⟩, hB.next hal, hal⟩
      case o2 =>
       intro a W hB hd ho
       have e5 : a.eval (.tmp 5) = .int .i64 (j : Nat) := ho 5 (by kernel_rfl)
       exact zFT _ (by simp) _ e5 ⟨_, rfl, rfl, hB, Below.refl _ _⟩
      case o3 =>
       intro a W hB hd ho
       obtain ⟨b, e53, h1⟩ : ∃ (b : Nat), a.eval (.tmp 53) = .slice (some ⟨b, 0, none⟩) 4 4 ∧ W.heap[b]? = some (.cells #[.string ⟨#[97]⟩, .string ⟨#[98]⟩, .string ⟨#[99]⟩, .string ⟨#[100]⟩] 9 (0, 0)) := hd 1 53 (by kernel_rfl)
       have e54 : a.eval (.tmp 54) = .int .i64 (j : Nat) := hd 2 54 (by kernel_rfl)
       have j1 : (0 : Int) ≤ (j : Int) := by omega
       have j2 : (j : Int) < 4 := by have := HJ4.out; omega
       exact zAZ (.pointer (some ⟨b, j, none⟩)) (by unfold execOp; simp only [ev_c, e53, e54]; go_simp) ⟨_, rfl, ⟨b, rfl, h1⟩, hB, Below.refl _ _⟩
      case o4 =>
       intro a W hB hd ho
       obtain ⟨b, e55, h1⟩ : ∃ (b : Nat), a.eval (.tmp 55) = .pointer (some ⟨b, j, none⟩) ∧ W.heap[b]? = some (.cells #[.string ⟨#[97]⟩, .string ⟨#[98]⟩, .string ⟨#[99]⟩, .string ⟨#[100]⟩] 9 (0, 0)) := hd 3 55 (by kernel_rfl)
       have c9 : W.cell? ⟨b, j, none⟩ = some (.string (tyN j)) := by
         rw [zAD h1]
         have hj4 := HJ4.out
         rcases (by omega : j = 0 ∨ j = 1 ∨ j = 2 ∨ j = 3) with rfl | rfl | rfl | rfl <;> rfl
       exact zAZ (.string (tyN j)) (by unfold execOp; simp only [ev_c, e55]; go_simp) ⟨_, rfl, rfl, hB, Below.refl _ _⟩
      case o5 =>
       intro a W hB hd ho
       have e10 : a.eval (.tmp 10) = .pointer (some ⟨b10, 0, none⟩) := ho 10 (by kernel_rfl)
       exact zDX 33 _ rfl _ _ e10 [.int .i64 ak, .slice ap an ac, .int .i64 xk, .int .i64 xvk, .int .i64 xvi, .string xvt, .string xva, .string xfd, .int .i64 zk, .int .i64 zvk, .int .i64 zvi, .string zvt, .string zva, .string zfd] _ (hB.r 0 (by simp)) Tryd.underlying33 rfl (by kernel_rfl) ⟨_, rfl, rfl, hB, Below.refl _ _⟩
      case o6 =>
       intro a W hB hd ho
       have e56 : a.eval (.tmp 56) = .string (tyN j) := hd 4 56 (by kernel_rfl)
       have e57 : a.eval (.tmp 57) = .agg #[.int .i64 ak, .slice ap an ac, .int .i64 xk, .int .i64 xvk, .int .i64 xvi, .string xvt, .string xva, .string xfd, .int .i64 zk, .int .i64 zvk, .int .i64 zvi, .string zvt, .string zva, .string zfd] := hd 5 57 (by kernel_rfl)
       exact zEA 47 _ rfl #[(0, .string ⟨#[120]⟩), (1, .string (tyN j)), (2, .agg #[.int .i64 ak, .slice ap an ac, .int .i64 xk, .int .i64 xvk, .int .i64 xvi, .string xvt, .string xva, .string xfd, .int .i64 zk, .int .i64 zvk, .int .i64 zvi, .string zvt, .string zva, .string zfd])] (by simp [ev_c, e56, e57]) (.agg #[.string ⟨#[120]⟩, .string (tyN j), .int .i64 ak, .slice ap an ac, .int .i64 xk, .int .i64 xvk, .int .i64 xvi, .string xvt, .string xva, .string xfd, .int .i64 zk, .int .i64 zvk, .int .i64 zvi, .string zvt, .string zva, .string zfd, .int .i64 0, .int .i64 0]) (by kernel_rfl) ⟨_, rfl, rfl, hB, Below.refl _ _⟩
      case o7 =>
       intro a W hB hd ho
       have e58 : a.eval (.tmp 58) = .agg #[.string ⟨#[120]⟩, .string (tyN j), .int .i64 ak, .slice ap an ac, .int .i64 xk, .int .i64 xvk, .int .i64 xvi, .string xvt, .string xva, .string xfd, .int .i64 zk, .int .i64 zvk, .int .i64 zvi, .string zvt, .string zva, .string zfd, .int .i64 0, .int .i64 0] := hd 6 58 (by kernel_rfl)
       have hal : Below W.heap.size W (W.alloc (.cells #[.string ⟨#[120]⟩, .string (tyN j), .int .i64 ak, .slice ap an ac, .int .i64 xk, .int .i64 xvk, .int .i64 xvi, .string xvt, .string xva, .string xfd, .int .i64 zk, .int .i64 zvk, .int .i64 zvi, .string zvt, .string zva, .string zfd, .int .i64 0, .int .i64 0] 47)) := (Below.refl _ _).alloc (Nat.le_refl _) _
       refine zDZ 48 1 _ rfl #[(0, .agg #[.string ⟨#[120]⟩, .string (tyN j), .int .i64 ak, .slice ap an ac, .int .i64 xk, .int .i64 xvk, .int .i64 xvi, .string xvt, .string xva, .string xfd, .int .i64 zk, .int .i64 zvk, .int .i64 zvi, .string zvt, .string zva, .string zfd, .int .i64 0, .int .i64 0])] (by simp [ev_c, e58]) (.slice (some ⟨W.heap.size, 0, none⟩) 1 1) (W.alloc (.cells #[.string ⟨#[120]⟩, .string (tyN j), .int .i64 ak, .slice ap an ac, .int .i64 xk, .int .i64 xvk, .int .i64 xvi, .string xvt, .string xva, .string xfd, .int .i64 zk, .int .i64 zvk, .int .i64 zvi, .string zvt, .string zva, .string zfd, .int .i64 0, .int .i64 0] 47)) (by kernel_rfl) ⟨_, rfl, ⟨W.heap.size, rfl, heap_alloc_new _ _⟩, hB.next hal, hal⟩
      case o8 =>
       intro a W hB hd ho
       obtain ⟨b1, e59, h1⟩ : ∃ (b1 : Nat), a.eval (.tmp 59) = .slice (some ⟨b1, 0, none⟩) 1 1 ∧ W.heap[b1]? = some (.cells #[.string ⟨#[120]⟩, .string (tyN j), .int .i64 ak, .slice ap an ac, .int .i64 xk, .int .i64 xvk, .int .i64 xvi, .string xvt, .string xva, .string xfd, .int .i64 zk, .int .i64 zvk, .int .i64 zvi, .string zvt, .string zva, .string zfd, .int .i64 0, .int .i64 0] 47 (0, 0)) := hd 7 59 (by kernel_rfl)
       exact zEA 55 _ rfl #[(0, .string ⟨#[114]⟩), (1, .slice (some ⟨b1, 0, none⟩) 1 1)] (by simp [ev_c, e59]) (.agg #[.string ⟨#[114]⟩, .slice (some ⟨b1, 0, none⟩) 1 1, .slice none 0 0, .slice none 0 0, .slice none 0 0, .string ⟨#[]⟩, .slice none 0 0]) (by kernel_rfl) ⟨_, rfl, ⟨b1, rfl, h1⟩, hB, Below.refl _ _⟩
      case o9 =>
       intro a W hB hd ho
       obtain ⟨b1, e60, h1⟩ : ∃ (b1 : Nat), a.eval (.tmp 60) = .agg #[.string ⟨#[114]⟩, .slice (some ⟨b1, 0, none⟩) 1 1, .slice none 0 0, .slice none 0 0, .slice none 0 0, .string ⟨#[]⟩, .slice none 0 0] ∧ W.heap[b1]? = some (.cells #[.string ⟨#[120]⟩, .string (tyN j), .int .i64 ak, .slice ap an ac, .int .i64 xk, .int .i64 xvk, .int .i64 xvi, .string xvt, .string xva, .string xfd, .int .i64 zk, .int .i64 zvk, .int .i64 zvi, .string zvt, .string zva, .string zfd, .int .i64 0, .int .i64 0] 47 (0, 0)) := hd 8 60 (by kernel_rfl)
       have hal : Below W.heap.size W (W.alloc (.cells #[.string ⟨#[114]⟩, .slice (some ⟨b1, 0, none⟩) 1 1, .slice none 0 0, .slice none 0 0, .slice none 0 0, .string ⟨#[]⟩, .slice none 0 0] 55)) := (Below.refl _ _).alloc (Nat.le_refl _) _
       refine zDZ 56 1 _ rfl #[(0, .agg #[.string ⟨#[114]⟩, .slice (some ⟨b1, 0, none⟩) 1 1, .slice none 0 0, .slice none 0 0, .slice none 0 0, .string ⟨#[]⟩, .slice none 0 0])] (by simp [ev_c, e60]) (.slice (some ⟨W.heap.size, 0, none⟩) 1 1) (W.alloc (.cells #[.string ⟨#[114]⟩, .slice (some ⟨b1, 0, none⟩) 1 1, .slice none 0 0, .slice none 0 0, .slice none 0 0, .string ⟨#[]⟩, .slice none 0 0] 55)) (by kernel_rfl) ⟨_, rfl, ⟨b1, W.heap.size, rfl, (hal.block _ (zAE h1)).trans h1, heap_alloc_new _ _⟩, hB.next hal, hal⟩
      case o10 =>
       intro a W hB hd ho
       obtain ⟨b, e52, h0⟩ : ∃ (b : Nat), a.eval (.tmp 52) = .slice (some ⟨b + 4, 0, none⟩) 5 5 ∧ Tys W b := hd 0 52 (by kernel_rfl)
       obtain ⟨b1, b2, e61, h1, h2⟩ : ∃ (b1 b2 : Nat), a.eval (.tmp 61) = .slice (some ⟨b2, 0, none⟩) 1 1 ∧ W.heap[b1]? = some (.cells #[.string ⟨#[120]⟩, .string (tyN j), .int .i64 ak, .slice ap an ac, .int .i64 xk, .int .i64 xvk, .int .i64 xvi, .string xvt, .string xva, .string xfd, .int .i64 zk, .int .i64 zvk, .int .i64 zvi, .string zvt, .string zva, .string zfd, .int .i64 0, .int .i64 0] 47 (0, 0)) ∧ W.heap[b2]? = some (.cells #[.string ⟨#[114]⟩, .slice (some ⟨b1, 0, none⟩) 1 1, .slice none 0 0, .slice none 0 0, .slice none 0 0, .string ⟨#[]⟩, .slice none 0 0] 55 (0, 0)) := hd 9 61 (by kernel_rfl)
       exact zEA 58 _ rfl #[(0, .slice (some ⟨b + 4, 0, none⟩) 5 5), (1, .slice (some ⟨b2, 0, none⟩) 1 1)] (by simp [ev_c, e52, e61]) (.agg #[.slice (some ⟨b + 4, 0, none⟩) 5 5, .slice (some ⟨b2, 0, none⟩) 1 1]) (by kernel_rfl) ⟨_, rfl, ⟨b, b1, b2, rfl, h0, h1, h2⟩, hB, Below.refl _ _⟩
      case o11 =>
       intro a W hB hd ho
       have hal : Below W.heap.size W (W.alloc (.cells #[.slice none 0 0, .slice none 0 0] 58)) := (Below.refl _ _).alloc (Nat.le_refl _) _
       exact op_al 58 rfl [.slice none 0 0, .slice none 0 0] (by kernel_rfl) ⟨_, rfl, ⟨W.heap.size, rfl, heap_alloc_new _ _, hB.bel.size⟩, hB.next hal, hal⟩
      case hend =>
       intro vs W o ho hB hT
       have e2 : vs 2 = .int .i64 (j : Nat) := hT 2 (by decide)
       have e4 : vs 4 = .string (tyN j) := hT 4 (by decide)
       have e5 : vs 5 = .agg #[.int .i64 ak, .slice ap an ac, .int .i64 xk, .int .i64 xvk, .int .i64 xvi, .string xvt, .string xva, .string xfd, .int .i64 zk, .int .i64 zvk, .int .i64 zvi, .string zvt, .string zva, .string zfd] := hT 5 (by decide)
       have e6 : vs 6 = .agg #[.string ⟨#[120]⟩, .string (tyN j), .int .i64 ak, .slice ap an ac, .int .i64 xk, .int .i64 xvk, .int .i64 xvi, .string xvt, .string xva, .string xfd, .int .i64 zk, .int .i64 zvk, .int .i64 zvi, .string zvt, .string zva, .string zfd, .int .i64 0, .int .i64 0] := hT 6 (by decide)
       obtain ⟨b, b1, b2, e10, h0, h1, h2⟩ : ∃ (b b1 b2 : Nat), vs 10 = .agg #[.slice (some ⟨b + 4, 0, none⟩) 5 5, .slice (some ⟨b2, 0, none⟩) 1 1] ∧ Tys W b ∧ W.heap[b1]? = some (.cells #[.string ⟨#[120]⟩, .string (tyN j), .int .i64 ak, .slice ap an ac, .int .i64 xk, .int .i64 xvk, .int .i64 xvi, .string xvt, .string xva, .string xfd, .int .i64 zk, .int .i64 zvk, .int .i64 zvi, .string zvt, .string zva, .string zfd, .int .i64 0, .int .i64 0] 47 (0, 0)) ∧ W.heap[b2]? = some (.cells #[.string ⟨#[114]⟩, .slice (some ⟨b1, 0, none⟩) 1 1, .slice none 0 0, .slice none 0 0, .slice none 0 0, .string ⟨#[]⟩, .slice none 0 0] 55 (0, 0)) := hT 10 (by decide)
       obtain ⟨c, e11, h3, h4⟩ : ∃ (c : Nat), vs 11 = .pointer (some ⟨c, 0, none⟩) ∧ W.heap[c]? = some (.cells #[.slice none 0 0, .slice none 0 0] 58 (0, 0)) ∧ wa.heap.size ≤ c := hT 11 (by decide)
       cases (show some _ = some o from ho)
       simp only [List.toList_toArray, List.take_succ_cons, List.take_zero, fill, if_true, Act.put, List.setIfInBounds_toArray, List.set_cons_zero, List.set_cons_succ, e2, e4, e5, e6, e10, e11]
       refine op_st 58 _ _ rfl c 0 [.slice none 0 0, .slice none 0 0] 58 (.agg #[.slice (some ⟨b + 4, 0, none⟩) 5 5, .slice (some ⟨b2, 0, none⟩) 1 1]) [.slice (some ⟨b + 4, 0, none⟩) 5 5, .slice (some ⟨b2, 0, none⟩) 1 1] (by rfl) (by rfl) (by rfl) h3 (by simp) (by kernel_rfl) (by rfl) ?_
       intro w7 hblk hfr
       have HW7 : Hid (w7.heap[c]? = some (.cells #[.slice (some ⟨b + 4, 0, none⟩) 5 5, .slice (some ⟨b2, 0, none⟩) 1 1] 58 (0, 0))) := hblk
       have HTY := hid (h0.fr hfr h3)
       have HP1 : Hid (w7.heap[b1]? = some (.cells #[.string ⟨#[120]⟩, .string (tyN j), .int .i64 ak, .slice ap an ac, .int .i64 xk, .int .i64 xvk, .int .i64 xvi, .string xvt, .string xva, .string xfd, .int .i64 zk, .int .i64 zvk, .int .i64 zvi, .string zvt, .string zva, .string zfd, .int .i64 0, .int .i64 0] 47 (0, 0))) := (hfr.block b1 (zAE h1) (fun e => by rw [e, h3] at h1; simp at h1)).trans h1
       have HP2 : Hid (w7.heap[b2]? = some (.cells #[.string ⟨#[114]⟩, .slice (some ⟨b1, 0, none⟩) 1 1, .slice none 0 0, .slice none 0 0, .slice none 0 0, .string ⟨#[]⟩, .slice none 0 0] 55 (0, 0))) := (hfr.block b2 (zAE h2) (fun e => by rw [e, h3] at h2; simp at h2)).trans h2
       have HBW : Hid (Below wa.heap.size wa w7) := zAO hB.bel hfr h4
       obtain ⟨v0, hv0⟩ : ∃ x, vs 0 = x := ⟨_, rfl⟩
       obtain ⟨v1, hv1⟩ : ∃ x, vs 1 = x := ⟨_, rfl⟩
       obtain ⟨v3, hv3⟩ : ∃ x, vs 3 = x := ⟨_, rfl⟩
       obtain ⟨v7, hv7⟩ : ∃ x, vs 7 = x := ⟨_, rfl⟩
       obtain ⟨v8, hv8⟩ : ∃ x, vs 8 = x := ⟨_, rfl⟩
       obtain ⟨v9, hv9⟩ : ∃ x, vs 9 = x := ⟨_, rfl⟩
       rw [hv0, hv1, hv3, hv7, hv8, hv9]
       clear hblk hfr h0 h1 h2 h3 h4 hB hT e2 e4 e5 e6 e10 e11 hv0 hv1 hv3 hv7 hv8 hv9
       have hy7 : Below y6.heap.size y6 w7 := zAA HBA.out HBW.out HBA.out.size
       have hw7 : Below w.heap.size w w7 := zAA HBL6.out hy7 HBL6.out.size
       have hpt : RdL w7 (encP ⟨txt [120], tyN j, (⟨ak, asb, (⟨xk, xvk, xvi, xvt, xva, xfd⟩ : Opd), (⟨zk, zvk, zvi, zvt, zva, zfd⟩ : Opd)⟩ : Cn), 0, 0⟩) [.string ⟨#[120]⟩, .string (tyN j), .int .i64 ak, .slice ap an ac, .int .i64 xk, .int .i64 xvk, .int .i64 xvi, .string xvt, .string xva, .string xfd, .int .i64 zk, .int .i64 zvk, .int .i64 zvi, .string zvt, .string zva, .string zfd, .int .i64 0, .int .i64 0] := .cons (.lit _) (.cons (.lit _) (zBO (HRA.out.below hy7) (zAT [.int .i64 0, .int .i64 0])))
       have hrl : Rd w7 (.row 55 7 ([rlN j (⟨ak, asb, (⟨xk, xvk, xvi, xvt, xva, xfd⟩ : Opd), (⟨zk, zvk, zvi, zvt, zva, zfd⟩ : Opd)⟩ : Cn)].map encR)) (.slice (some ⟨b2, 0, none⟩) 1 1) := zA8 (l := [rlN j (⟨ak, asb, (⟨xk, xvk, xvi, xvt, xva, xfd⟩ : Opd), (⟨zk, zvk, zvi, zvt, zva, zfd⟩ : Opd)⟩ : Cn)].map encR) HP2.out (by simp) (by simp [maxLen]) (.cons (.lit _) (.cons (zA8 (l := [(⟨txt [120], tyN j, (⟨ak, asb, (⟨xk, xvk, xvi, xvt, xva, xfd⟩ : Opd), (⟨zk, zvk, zvi, zvt, zva, zfd⟩ : Opd)⟩ : Cn), 0, 0⟩ : Pt)].map encP) HP1.out (by simp) (by simp [maxLen]) (zEK hpt)) (.cons (.nil _ _ none 0 (Nat.zero_le _)) (.cons (.nil _ _ none 0 (Nat.zero_le _)) (.cons (.nil _ _ none 0 (Nat.zero_le _)) (.cons (.lit _) (.cons (.nil _ _ none 0 (Nat.zero_le _)) (RdL.nil _))))))))
       have htk := zGL kts [rlN j (⟨ak, asb, (⟨xk, xvk, xvi, xvt, xva, xfd⟩ : Opd), (⟨zk, zvk, zvi, zvt, zva, zfd⟩ : Opd)⟩ : Cn)] (fun r hr => by simp at hr; subst hr; exact szr_rlN j _ (by rw [← HCQ.out]; exact wsz_cds _ (wsz_whN co j k) q)) (.slice (some ⟨b + 4, 0, none⟩) 5 5) (.slice (some ⟨b2, 0, none⟩) 1 1) 0 0 0 (⟨1, (j : Nat), s0, 20, vls j q6 t⟩ : Ev) (.slice up un uc) [] (.slice none 0 0) w7 HTY.out.rd hrl (zAI HTK.out hw7) (zAI HTR.out hw7) (HRE6.out.later hy7) (.nil _ _ none 0 (Nat.zero_le _))
       have htr : tkr kts [rlN j (⟨ak, asb, (⟨xk, xvk, xvi, xvt, xva, xfd⟩ : Opd), (⟨zk, zvk, zvi, zvt, zva, zfd⟩ : Opd)⟩ : Cn)] 0 0 0 (⟨1, (j : Nat), s0, 20, vls j q6 t⟩ : Ev) [] = (g q, 0) := by
         have h9 := tkr_cds HJ4.out HCN.out.2.2 HCN.out.2.1 hlt (⟨1, (j : Nat), s0, 20, vls j q6 t⟩ : Ev) (evk_vls HJ4.out HQR.out.1 HQR.out.2 HE4.out.1 HE4.out.2.1 HE4.out.2.2) rfl
         rw [HCN.out.1, HG.out, HCQ.out] at h9
         exact h9
       rw [htr] at htk
       have HTA := hid htk
       have XB := hid (zAJ HW7.out)
       have XE : Hid (w7.rangeAt b7 0 [.int .i64 1, .int .i64 (j : Nat), .int .i64 s0, .int .i64 20, .slice up un uc]) := zAJ ((hy7.block _ (zAE HE6.out)).trans HE6.out)
       have HO7 := hid (zA4 HOA.out fun i hi => HBW.out.block i (zAL HOA.out hi).2)
       have HY7 := hid hy7
       clear hy7 hw7 hpt hrl htk htr
       go_wp2_with (first
         | ((with_reducible show wpList _ _ _ (Oper.mk (some 64) _ _ _ _ _ :: _) _ _); refine wpList_load_mid (by rfl) 58 _ (by rfl) c 0 (by rfl) [.slice (some ⟨b + 4, 0, none⟩) 5 5, .slice (some ⟨b2, 0, none⟩) 1 1] _ XB.out Tryd.underlying58 rfl (by kernel_rfl) ?_)
         | ((with_reducible show wpList _ _ _ (Oper.mk (some 65) _ _ _ _ _ :: _) _ _); refine wpList_load_mid (by rfl) 40 _ (by rfl) b7 0 (by rfl) [.int .i64 1, .int .i64 (j : Nat), .int .i64 s0, .int .i64 20, .slice up un uc] _ XE.out Tryd.underlying40 rfl (by kernel_rfl) ?_)
         | (go_at_call 9; refine HTA.out.mono ?_; rintro e w8 ⟨rfl, hb8⟩; have HY8 := hid (zAA HY7.out hb8 HY7.out.size); have HO8 := hid (zA4 HO7.out fun i hi => hb8.block i (zAL HO7.out hi).2); have HOB : Hid (∀ o, (w8.alloc o).ownsRow y6.heap.size 4 1 (.slice pv q cv) q ((List.range q).map fun x => Value.bool (g x))) := (fun o => zA4 HO8.out fun i hi => ((Below.refl w8.heap.size w8).alloc (Nat.le_refl _) o).block i (zAL HO8.out hi).2); have HYB : Hid (∀ o, Below y6.heap.size y6 (w8.alloc o)) := (fun o => HY8.out.alloc HY8.out.size o); have HCB : Hid (∀ x, (w8.alloc (.cells #[x] 4)).cell? ⟨w8.heap.size, 0, none⟩ = some x) := (fun x => zAD (heap_alloc_new w8 (.cells #[x] 4)) 0); clear hb8)
         | ((with_reducible show wpList _ _ _ (Oper.mk (some 74) _ _ _ _ _ :: _) _ _); refine wp_appB (by rfl) _ _ (by rfl) y6.heap.size q (.slice pv q cv) ((List.range q).map fun x => Value.bool (g x)) (by rfl) (HOB.out _) (HYB.out _).size w8.heap.size (g q) (by rfl) (HCB.out _) (by omega) ?_; intro v9 w9 hr9 hg9; have HY9 : Hid (Below y6.heap.size y6 w9) := (HYB.out _).grown hg9 (HYB.out _).size (fun k hk => (zAL (HOB.out (.cells #[.bool (g q)] 4)) hk).1); have HR9 := hid hr9; clear hg9 hr9))
       obtain ⟨p9, c9, hv9⟩ := zBP HR9.out
       subst hv9
       go_roundg (5 - (q + 1))
       case rel => exact ⟨q + 1, p9, c9, by omega, rfl, by go_num, rfl, HY9.out, by rw [List.range_succ, List.map_append]; exact HR9.out⟩
       case measure => omega
    . obtain rfl : q = 4 := by omega
      obtain ⟨gb, hpv⟩ : ∃ gb, pv = some ⟨gb, 0, none⟩ := by
       rcases hO.2 with ⟨_, h2⟩ | ⟨gb, cap, cur, h2, _⟩
       . omega
       . simp only [Value.slice.injEq] at h2
         exact ⟨gb, h2.1⟩
      subst hpv
      have hcs := fun x u hu => hO.cells (g := gb) rfl x u hu
      have h9 := hld_cds (ts := kts) (ws := []) (x := (⟨1, (j : Nat), s0, 20, vls j q6 t⟩ : Ev)) (kn := []) co j k
      rw [HG.out, HG.out, HG.out, HG.out] at h9
      have c0 : wr.cell? ⟨gb, 0, none⟩ = some (.bool (g 0)) := hcs 0 _ rfl
      have c1 : wr.cell? ⟨gb, 1, none⟩ = some (.bool (g 1)) := hcs 1 _ rfl
      have c2 : wr.cell? ⟨gb, 2, none⟩ = some (.bool (g 2)) := hcs 2 _ rfl
      have c3 : wr.cell? ⟨gb, 3, none⟩ = some (.bool (g 3)) := hcs 3 _ rfl
      rw [h9.1] at c1
      rw [h9.2.1] at c2
      rw [h9.2.2] at c3
      have HBF : Hid (Below w.heap.size w wr) := zAA HBL6.out hB HBL6.out.size
      obtain ⟨g0, hg0⟩ : ∃ x, g 0 = x := ⟨_, rfl⟩
      rw [hg0] at c0 c1
      clear hcs h9 hO hB HROW HG hg0 HO HB
      cases g0 <;> (simp only [Bool.not_true, Bool.not_false] at c1; go_wp2_with fail; go_quiet (fail); go_wp2_with fail; go_ret; exact ⟨rfl, zAN HBF.out _⟩)
end Go.Proofs.YtnlmknbhppdliaaDoor.Chk
