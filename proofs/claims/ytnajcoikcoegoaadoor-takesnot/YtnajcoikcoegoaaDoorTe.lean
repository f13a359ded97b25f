/-
  One event of raw numbers. Plain facts for TakesNot.
-/
import Derived.Test.YtnajcoikcoegoaaDoorTd
import Derived.Test.YtnajcoikcoegoaaDoorDu
namespace Go.Proofs.YtnajcoikcoegoaaDoor.Chk
open Go.ChangeShapes Go.WideShapes Go.ChangeAt Go.RowKit Go.Maps
set_option linter.unusedVariables false
set_option linter.unusedSimpArgs false
set_option maxRecDepth 20000
theorem vchk_int {k : Int} (h0 : 0 ≤ k) (h1 : k < 6) : V4.vchk ⟨1, k, txt []⟩ = 0 := by
  unfold V4.vchk
  have e : (txt []).toList = [] := by kernel_rfl
  have z : (txt []).size = 0 := by kernel_rfl
  simp only [e, z]
  rw [if_neg (by simp), if_neg (by simp), if_neg (by omega), if_neg (by omega)]
theorem vchk_txt {t : ByteArray} (h : t.size ≤ 3) : V4.vchk ⟨2, 0, t⟩ = 0 := by
  unfold V4.vchk
  simp only
  rw [if_neg (by simp), if_neg (by simp), if_neg (by omega), if_neg (by omega)]
theorem evk_vls {j : Nat} (hj : j < 4) {k s0 : Int} (h0 : 0 ≤ k) (h1 : k < 6) {t : ByteArray} (ht : t.size ≤ 3) (h2 : 0 ≤ s0) (h3 : s0 ≤ 20) : evk kts ⟨1, (j : Nat), s0, 20, vls j k t⟩ = 0 := by
  unfold evk V4.echk
  have e : V4.schk s0 20 = 0 := by unfold V4.schk; rw [if_neg (by omega), if_neg (by omega)]
  have hl : ((kts.map vT).length : Int) = 5 := by decide
  simp only
  rw [if_neg (by omega), if_neg (by rw [hl]; omega), e, if_neg (by simp), Int.toNat_natCast]
  have v1 := vchk_int h0 h1
  have v2 := vchk_txt ht
  rcases (by omega : j = 0 ∨ j = 1 ∨ j = 2 ∨ j = 3) with rfl | rfl | rfl | rfl
  · show V4.fit ⟨txt [97], [⟨txt [110], 1⟩]⟩ [⟨1, k, txt []⟩] = 0
    unfold V4.fit
    rw [if_neg (by simp only [ne_eq, Decidable.not_not]; kernel_rfl)]
    simp [V4.fst, V4.vat, V4.kat, v1]
  · show V4.fit ⟨txt [98], [⟨txt [110], 1⟩, ⟨txt [115], 2⟩]⟩ [⟨1, k, txt []⟩, ⟨2, 0, t⟩] = 0
    unfold V4.fit
    rw [if_neg (by simp only [ne_eq, Decidable.not_not]; kernel_rfl)]
    simp [V4.fst, V4.vat, V4.kat, v1, v2]
  · show V4.fit ⟨txt [99], []⟩ [] = 0
    kernel_rfl
  · show V4.fit ⟨txt [100], [⟨txt [110], 1⟩]⟩ [⟨1, k, txt []⟩] = 0
    unfold V4.fit
    rw [if_neg (by simp only [ne_eq, Decidable.not_not]; kernel_rfl)]
    simp [V4.fst, V4.vat, V4.kat, v1]
set_option maxHeartbeats 16000000 in
theorem one_any (kd ty lg nn dl : Int) (tx : ByteArray) (cl : Bool) (w : World) (h1 : -9223372036854775808 ≤ ty) (h2 : ty ≤ 9223372036854775807) (h3 : -9223372036854775808 ≤ lg) (h4 : lg ≤ 9223372036854775807) (h5 : -9223372036854775808 ≤ nn) (h6 : nn ≤ 9223372036854775807) (j : Nat) (hj : pkd ty 4 = (j : Int)) :
    Calls Tryd.prog 7 #[.agg #[.int .i64 kd, .int .i64 ty, .int .i64 lg, .int .i64 nn, .int .i64 dl, .string tx, .bool cl], .int .i64 1] w fun e w' => ∃ (s0 : Int) (t : ByteArray) (u : Value), t.size ≤ 3 ∧ e = .returned (evV ⟨1, (j : Nat), s0, 20, vls j (pkd nn 6) t⟩ u) ∧ 0 ≤ s0 ∧ s0 ≤ 20 ∧ Rd w' (.row 29 3 ((vls j (pkd nn 6) t).map encV)) u ∧ Below w.heap.size w w' := by
  have HIN := hid (fun W => insert_any kd ty lg nn dl tx cl W h1 h2 h3 h4 h5 h6 j hj)
  have HPT := hid (fun W => picked_any ty 4 W h1 h2 (by decide) (by decide))
  rw [hj] at HPT
  have hB := hp2 (bxs2 w [.int .i64 kd, .int .i64 ty, .int .i64 lg, .int .i64 nn, .int .i64 dl, .string tx, .bool cl] [.int .i64 0, .int .i64 0, .int .i64 0, .int .i64 0, .slice none 0 0] 25 40)
  have HB := hid hB
  have X0 := hid (hB.r 0 (by simp))
  clear h1 h2 h3 h4 h5 h6 hj hB
  go_enter Tryd.func7, Tryd.ntmps7
  go_wp2_with (first
    | ((with_reducible show wpList _ _ _ (Oper.mk (some 7) _ _ _ _ _ :: _) _ _); refine wpList_load_mid (by rfl) 25 _ (by rfl) w.heap.size 0 (by rfl) [.int .i64 kd, .int .i64 ty, .int .i64 lg, .int .i64 nn, .int .i64 dl, .string tx, .bool cl] _ X0.out Tryd.underlying25 rfl (by kernel_rfl) ?_)
    | (go_at_call 12; refine (HIN.out _).mono ?_; rintro e w1 ⟨s0, t, u, ht, rfl, hs1, hs2, hR, hb⟩; obtain ⟨up, un, uc, rfl⟩ := rd_shape (hR w1 (fun _ _ _ => rfl)); have HF := hid (And.intro ht (And.intro hs1 hs2)); have HR1 := hid hR; have HB1 := hid hb; have HP1 := hid (HB.out.next hb); clear ht hs1 hs2 hR hb)
    | ((with_reducible show wpList _ _ _ (Oper.mk _ (.store 66 _ _) _ _ _ _ :: _) _ _); refine wp_st (by rfl) 66 _ _ (by rfl) w1.heap.size 0 [.int .i64 0, .string ⟨#[]⟩, .int .i64 0, .int .i64 0, .slice none 0 0, .int .i64 0, .bool false] 66 (.agg #[.int .i64 1, .string (tyN j), .int .i64 s0, .int .i64 20, .slice up un uc, .int .i64 0, .bool false]) [.int .i64 1, .string (tyN j), .int .i64 s0, .int .i64 20, .slice up un uc, .int .i64 0, .bool false] (by rfl) (by rfl) (by rfl) (heap_alloc_new _ _) (by simp) (by kernel_rfl) (by rfl) ?_; intro w2 hblk hfr; have hb12 : Below w1.heap.size w1 w2 := new_store hfr; have HW2 : Hid (w2.heap[w1.heap.size]? = some (.cells #[.int .i64 1, .string (tyN j), .int .i64 s0, .int .i64 20, .slice up un uc, .int .i64 0, .bool false] 66 (0, 0))) := hblk; have HP2 := hid (HP1.out.next hb12); have HB2 := hid hb12; have c1 : w2.cell? ⟨w.heap.size, 1, none⟩ = some (.int .i64 ty) := HP2.out.c 0 (by simp) 1; have c4 : w2.cell? ⟨w1.heap.size, 4, none⟩ = some (.slice up un uc) := cell_of_blk HW2.out 4; have XS : Hid (w2.rangeAt w1.heap.size 2 [.int .i64 s0, .int .i64 20]) := (fun q v hv => by rw [cell_of_blk HW2.out]; rcases q with _ | _ | q <;> simp_all); have HZ := hid (HP2.out.b 1 (by simp)); clear hblk hfr hb12)
    | (go_at_call 4; refine (HPT.out _).mono ?_; rintro e w2 ⟨rfl, rfl⟩)
    | ((with_reducible show wpList _ _ _ (Oper.mk (some 15) _ _ _ _ _ :: _) _ _); refine wpList_load_mid (by rfl) 37 _ (by rfl) w1.heap.size 2 (by rfl) [.int .i64 s0, .int .i64 20] _ XS.out Tryd.underlying37 rfl (by kernel_rfl) ?_)
    | ((with_reducible show wpList _ _ _ (Oper.mk _ (.store 40 _ _) _ _ _ _ :: _) _ _); refine wp_st (by rfl) 40 _ _ (by rfl) (w.heap.size + 1) 0 [.int .i64 0, .int .i64 0, .int .i64 0, .int .i64 0, .slice none 0 0] 40 (.agg #[.int .i64 1, .int .i64 (j : Nat), .int .i64 s0, .int .i64 20, .slice up un uc]) [.int .i64 1, .int .i64 (j : Nat), .int .i64 s0, .int .i64 20, .slice up un uc] (by rfl) (by rfl) (by rfl) HZ.out (by simp) (by kernel_rfl) (by rfl) ?_; intro w3 hblk hfr; have HW3 := hid hblk; have HF3 := hid hfr; have HBE : Hid (Below w.heap.size w w3) := below_fr HP2.out.bel hfr (by omega); clear hblk hfr))
  have hsz : (w.heap.size + 2) ≤ w1.heap.size := by have := HB1.out.size; simpa using this
  have HRF : Hid (Rd w3 (.row 29 3 ((vls j (pkd nn 6) t).map encV)) (.slice up un uc)) := HR1.out w3 fun i q1 q2 => by
    have q3 : w.heap.size + 2 ≤ i := by simpa using q1
    rw [HF3.out.block i (Nat.lt_of_lt_of_le q2 HB2.out.size) (by omega)]
    exact HB2.out.block i q2
  exact ret_loc (w.heap.size + 1) [.int .i64 1, .int .i64 (j : Nat), .int .i64 s0, .int .i64 20, .slice up un uc] 40 _ HW3.out rfl rfl (by rfl) Tryd.underlying40 rfl (by kernel_rfl) ⟨s0, t, _, HF.out.1, rfl, HF.out.2.1, HF.out.2.2, HRF.out, HBE.out⟩
theorem hz0 : (txt []).size ≤ maxLen := by decide
theorem wsz_cmp (k : Int) (a b : Opd) (ha : a.va = txt []) (hb : b.va = txt []) : Wsz (cmpC k a b) := .mk _ [] rfl (by show a.va.size ≤ maxLen; rw [ha]; exact hz0) (by show b.va.size ≤ maxLen; rw [hb]; exact hz0) (fun x hx => by cases hx)
theorem wsz_grp (k : Int) (l : List Cn) (h : ∀ x, x ∈ l → Wsz x) : Wsz (grpC k l) := .mk _ l rfl hz0 hz0 h
theorem wsz_whC (co at_ : Nat) (k : Int) (ot : Opd) (ho : ot.va = txt []) : Wsz (whC co at_ k ot) := by
  have h0 : Wsz cn0 := wsz_cmp 0 opd0 opd0 rfl rfl
  unfold whC
  split
  · exact h0
  · split
    · exact wsz_cmp _ _ _ rfl rfl
    · split
      · exact wsz_cmp _ _ _ rfl ho
      · split
        · exact wsz_cmp _ _ _ rfl ho
        · split
          · refine wsz_grp _ _ fun x hx => ?_
            simp at hx
            rcases hx with rfl | rfl
            · exact wsz_cmp _ _ _ rfl rfl
            · exact wsz_cmp _ _ _ rfl rfl
          · split
            · refine wsz_grp _ _ fun x hx => ?_
              simp at hx
              rcases hx with rfl | rfl
              · exact wsz_cmp _ _ _ ho rfl
              · refine wsz_grp _ _ fun y hy => ?_
                simp at hy
                subst hy
                exact wsz_cmp _ _ _ rfl rfl
            · split
              · split
                · exact wsz_cmp _ _ _ rfl rfl
                · exact wsz_cmp _ _ _ rfl ho
              · exact h0
theorem wsz_whN (co at_ : Nat) (k : Int) : Wsz (whN co at_ k) := by
  unfold whN
  split
  · exact wsz_cmp _ _ _ rfl rfl
  · exact wsz_whC _ _ _ _ rfl
theorem wsz_cds (c : Cn) (h : Wsz c) (q : Nat) : Wsz (cds c q) := by
  have hn : Wsz (ntC c) := wsz_grp _ _ fun x hx => by simp at hx; subst hx; exact h
  have h2 : ∀ x, x ∈ [c, ntC c] → Wsz x := fun x hx => by
    simp at hx
    rcases hx with rfl | rfl
    · exact h
    · exact hn
  unfold cds
  split
  · exact h
  · split
    · exact hn
    · split
      · exact wsz_grp _ _ h2
      · exact wsz_grp _ _ h2
theorem szr_rlN (j : Nat) (c : Cn) (h : Wsz c) : Szr (rlN j c) := ⟨fun t ht => by
    have ht' : t ∈ [(⟨txt [120], tyN j, c, 0, 0⟩ : Pt)] := ht
    simp at ht'
    subst ht'
    exact h, fun t ht => (by cases ht), fun t ht => (by cases ht), fun t ht => (by cases ht), fun t ht => (by cases ht)⟩
theorem tkr_cds {j co k0 q : Nat} (hj : j < 4) (hco : co < 9) (hk : k0 < 6) (hq : q < 4) (x : Ev) (hx : evk kts x = 0) (hxt : x.t = (j : Int)) : tkr kts [rlN j (cds (whN co j (k0 : Nat)) q)] 0 0 0 x [] = (hld kts [] x [] 8 (cds (whN co j (k0 : Nat)) q), 0) := by
  unfold tkr
  rw [if_neg (fun c => c (bok_cds j hj co hco k0 hk q hq)), if_neg (by simp)]
  have e1 : prt 0 ([rlN j (cds (whN co j (k0 : Nat)) q)].getD (0 : Int).toNat r0) = [⟨txt [120], tyN j, cds (whN co j (k0 : Nat)) q, 0, 0⟩] := by unfold prt; rw [if_pos rfl]; rfl
  have e2 : asq 0 (0 : Int).toNat ([rlN j (cds (whN co j (k0 : Nat)) q)].getD (0 : Int).toNat r0).w = [] := by unfold asq; rw [if_pos rfl]; rfl
  rw [e1, e2, if_neg (by simp), if_neg (fun c => c hx), if_neg (fun c => c rfl), if_neg (fun c => c rfl)]
  show (tkb kts [] x [] ⟨txt [120], tyN j, cds (whN co j (k0 : Nat)) q, 0, 0⟩, (0 : Int)) = _
  unfold tkb
  rw [hxt, Int.toNat_natCast]
  have e3 : seq (kts.getD j dT).n (tyN j) = true := by rcases (by omega : j = 0 ∨ j = 1 ∨ j = 2 ∨ j = 3) with rfl | rfl | rfl | rfl <;> kernel_rfl
  simp only [e3, Bool.true_and]
theorem Tys.fr {W W' : World} {b c : Nat} {cs : Array Value} (h : Tys W b) (hf : Fr (fun i => i = c) W W') (hc : W.heap[c]? = some (.cells cs 58 (0, 0))) : Tys W' b := by
  obtain ⟨h0, h1, h2, h3, h4⟩ := h
  have ne : ∀ (i : Nat) (ds : Array Value) (t : TypeId), t ≠ 58 → W.heap[i]? = some (.cells ds t (0, 0)) → W'.heap[i]? = some (.cells ds t (0, 0)) := fun i ds t ht hi => (hf.block i (blk_lt hi) (fun e => by
    rw [e, hc] at hi
    simp at hi
    exact ht hi.2.symm)).trans hi
  exact ⟨ne _ _ _ (by decide) h0, ne _ _ _ (by decide) h1, ne _ _ _ (by decide) h2, ne _ _ _ (by decide) h3, ne _ _ _ (by decide) h4⟩
end Go.Proofs.YtnajcoikcoegoaaDoor.Chk
