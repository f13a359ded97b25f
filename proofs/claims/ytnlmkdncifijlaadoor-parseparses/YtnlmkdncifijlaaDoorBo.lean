/-
  A book.
-/
import Derived.Test.YtnlmkdncifijlaaDoorRu
namespace Go.Proofs.YtnlmkdncifijlaaDoor
open Go.ChangeShapes Go.WideShapes Go.ChangeAt Go.RowKit Go.Maps
set_option linter.unusedVariables false
set_option linter.unusedSimpArgs false
set_option maxRecDepth 20000
/-- A book that is being read, in block U. -/
structure Bok (w : World) (U : Nat) (col : Nat → Nat) (b : Bk) (tv rv : Value) : Prop where
  blk : w.heap[U]? = some (.cells #[tv, rv] 26 (0, 0))
  r1 : Row w (Sc U col 1) 76 2 tv (b.t.map encY)
  r2 : Row w (Sc U col 2) 44 7 rv (b.r.map encR)
section
variable {w w' : World} {U g : Nat} {col : Nat → Nat} {b : Bk} {tv rv : Value}
theorem Bok.on (h : Bok w U col b tv rv) (hu : w'.heap[U]? = w.heap[U]?) (hb : ∀ i, U < i → i < w.heap.size → w'.heap[i]? = w.heap[i]?) : Bok w' U col b tv rv :=
  ⟨hu.trans h.blk, h.r1.mono fun i hi hl => ⟨hi, hb i hi.1 hl⟩, h.r2.mono fun i hi hl => ⟨hi, hb i hi.1 hl⟩⟩
theorem Bok.fr (h : Bok w U col b tv rv) (hf : Fr (fun i => i = g) w w') (hg : g < U) : Bok w' U col b tv rv :=
  h.on (hf.block U (blk_lt h.blk) (by show ¬ U = g; omega)) fun i hi hl => hf.block i hl (by show ¬ i = g; omega)
theorem Bok.new (h : Bok w U col b tv rv) (hf : Fr (fun _ => False) w w') : Bok w' U col b tv rv :=
  h.on (hf.block U (blk_lt h.blk) id) fun i _ hl => hf.block i hl id
theorem Bok.paint (h : Bok w U col b tv rv) (j : Nat) : Bok w U (paint col w.heap.size j) b tv rv := by
  have key : ∀ {k i : Nat}, Sc U col k i → i < w.heap.size → Sc U (Go.Proofs.YtnlmkdncifijlaaDoor.paint col w.heap.size j) k i := fun hi hl => ⟨hi.1, (paint_lt hl).trans hi.2⟩
  exact ⟨h.blk, h.r1.mono fun i hi hl => ⟨key hi hl, rfl⟩, h.r2.mono fun i hi hl => ⟨key hi hl, rfl⟩⟩
end
theorem ent_eventType : ∀ args w, (callFunc 41 args).run Tryd.prog w = .ok (.enter 41 args) w := enters_of Tryd.func41 (by kernel_rfl) rfl
theorem ent_rule : ∀ args w, (callFunc 42 args).run Tryd.prog w = .ok (.enter 42 args) w := enters_of Tryd.func42 (by kernel_rfl) rfl
theorem holdsY {w : World} {S : Nat → Prop} {t : Tp} {v : Value} (h : Holds w S (.row 80 2 (t.f.map encF)) v) : HoldsL w S (encY t) [.string t.n, v] := .cons (.lit _) (.cons h (.nil _ _))
theorem bkp_end {L : List Tk} {b : Bk} {s : St} (h : ¬ (s.e = 0 ∧ s.i < L.length)) : ∀ n, bkp L n b s = (b, s)
  | 0 => rfl
  | n + 1 => by rw [bkp, if_neg h]
/-- What a book leaves. -/
def BPost (w : World) (g : Nat) (V : Value) (L : List Tk) (b : Bk) (s : St) (e : Ending) (w' : World) : Prop :=
  ∃ p1 c1 p2 c2, e = .returned (.agg #[.slice p1 b.t.length c1, .slice p2 b.r.length c2]) ∧ HoldsL w' (fun i => w.heap.size ≤ i) (encB b) [.slice p1 b.t.length c1, .slice p2 b.r.length c2] ∧ Env w' g V L s ∧ Fr (fun i => i = g) w w'
def bk0 : List Value := [.slice none 0 0, .slice none 0 0]
theorem Bok.app1 {w w5 : World} {U : Nat} {col : Nat → Nat} {b : Bk} {tv rv v' : Value} {x : Tp} (h : Bok w U col b tv rv) (o : Obj) (hgb : (w.alloc o).grownBy w5 tv.ownBlock) (hown : ∀ k, tv.ownBlock = some k → Sc U col 1 k) (hrw : Row w5 (Sc U col 1) 76 2 v' (b.t.map encY ++ [encY x])) (hb : w5.heap[U]? = some (.cells #[tv, rv] 26 (0, 0))) : Bok (w5.setCell ⟨U, 0, none⟩ v') U col ⟨b.t ++ [x], b.r⟩ v' rv :=
  ⟨by rw [blk_set hb]; rfl, by rw [List.map_append]; exact hrw.cell sc_up, ((h.r2.alloc o).apart hgb (fun k hk c => by have := (hown k hk).2; rw [c.2] at this; omega)).cell sc_up⟩
theorem Bok.app2 {w w5 : World} {U : Nat} {col : Nat → Nat} {b : Bk} {tv rv v' : Value} {x : Rl} (h : Bok w U col b tv rv) (o : Obj) (hgb : (w.alloc o).grownBy w5 rv.ownBlock) (hown : ∀ k, rv.ownBlock = some k → Sc U col 2 k) (hrw : Row w5 (Sc U col 2) 44 7 v' (b.r.map encR ++ [encR x])) (hb : w5.heap[U]? = some (.cells #[tv, rv] 26 (0, 0))) : Bok (w5.setCell ⟨U, 1, none⟩ v') U col ⟨b.t, b.r ++ [x]⟩ tv v' :=
  ⟨by rw [blk_set hb]; rfl, ((h.r1.alloc o).apart hgb (fun k hk c => by have := (hown k hk).2; rw [c.2] at this; omega)).cell sc_up, by rw [List.map_append]; exact hrw.cell sc_up⟩
theorem Bok.out {w w' : World} {U a : Nat} {col : Nat → Nat} {b : Bk} {tv rv : Value} (h : Bok w U col b tv rv) (ha : a ≤ U) (hs : ∀ i, U < i → i < w.heap.size → w'.heap[i]? = w.heap[i]?) : HoldsL w' (fun i => a ≤ i) (encB b) [tv, rv] := by
  have key : ∀ {j i : Nat}, Sc U col j i → i < w.heap.size → a ≤ i ∧ w'.heap[i]? = w.heap[i]? := fun hi hl => ⟨by have := hi.1; omega, hs _ hi.1 hl⟩
  exact .cons (h.r1.holds.mono fun i hi hl => key hi hl) (.cons (h.r2.holds.mono fun i hi hl => key hi hl) (.nil _ _))
theorem Loc.apart1 {w0 w : World} {g R : Nat} {V : Value} {L : List Tk} {s : St} {cs : List Value} {T : TypeId} (h : Loc w0 g V L w s R cs T) (U j : Nat) (v : Value) (h1 : R < U) (h2 : w0.heap.size ≤ U) : Loc w0 g V L (w.setCell ⟨U, j, none⟩ v) s R cs T := by
  have hhi := h.hi
  exact h.wide (U := U) (h.env.setCell _ (by show g < U; omega) _) ((Fr.refl _ w).setCell (p := ⟨U, j, none⟩) (.inl (.inr (Nat.le_refl _))) _) h1 h2
set_option maxHeartbeats 8000000 in
theorem book_any (w : World) (g : Nat) (V : Value) (L : List Tk) (h : Env w g V L ⟨0, 0, 0⟩) : Calls Tryd.prog 18 #[rp g] w (BPost w g V L (bok L).1 (bok L).2) := by
  have HL0 : Hid (Loc w g V L (w.alloc (.cells bk0.toArray 26)) ⟨0, 0, 0⟩ w.heap.size bk0 26) := Loc.start h bk0 _
  have HL1 : Hid (Lo2 w g V L ((w.alloc (.cells bk0.toArray 26)).alloc (.cells bk0.toArray 26)) ⟨0, 0, 0⟩ w.heap.size bk0 26 (w.alloc (.cells bk0.toArray 26)).heap.size bk0 26) := HL0.out.two bk0 _
  have HGW : Hid (g < w.heap.size) := blk_lt h.blk
  have HLEN : Hid (L.length ≤ 700) := h.len
  obtain ⟨p, cap, hV⟩ := h.shape
  unfold bok
  obtain ⟨F, hF⟩ : ∃ F, bkp L (L.length + 1) ⟨[], []⟩ ⟨0, 0, 0⟩ = F := ⟨_, rfl⟩
  rw [hF]
  have HF0 : Hid (bkp L (L.length + 1) ⟨[], []⟩ ⟨0, 0, 0⟩ = F) := hF
  have HV : Hid (V = .slice p L.length cap) := hV
  clear h hF hV
  go_enter Tryd.func18, Tryd.ntmps18
  go_wp2_with fail
  obtain ⟨U, hU⟩ : ∃ U, (w.alloc (.cells bk0.toArray 26)).heap.size = U := ⟨_, rfl⟩
  have hU' : w.heap.size + 1 = U := by rw [← hU]; simp
  obtain ⟨R, hR⟩ : ∃ R, w.heap.size = R := ⟨_, rfl⟩
  obtain ⟨wb, hwb⟩ : ∃ wb, (w.alloc (.cells bk0.toArray 26)).alloc (.cells bk0.toArray 26) = wb := ⟨_, rfl⟩
  change Go.Code.wp _ _ _ _ ((w.alloc (.cells bk0.toArray 26)).alloc (.cells bk0.toArray 26))
  rw [hwb, hU']
  rw [hwb, hU] at HL1
  rw [hR] at HL1 ⊢
  have HRU : Hid (R < U) := by show R < U; omega
  have HWU : Hid (w.heap.size ≤ U) := by show w.heap.size ≤ U; omega
  have HGU : Hid (g < U) := by show g < U; have := HGW.out; omega
  have HBK : Hid (Bok wb U (fun _ => 0) ⟨[], []⟩ (.slice none 0 0) (.slice none 0 0)) := ⟨HL1.out.blk2, Row.nil _ _ _ _, Row.nil _ _ _ _⟩
  clear hU hU' hR hwb HL0
  go_loopg [] (L.length + 1) (fun k wr => ∃ (b : Bk) (st : St) (col : Nat → Nat) (tv rv : Value), Loc w g V L wr st R bk0 26 ∧ Bok wr U col b tv rv ∧ bkp L k b st = F ∧ (st.e = 0 ∧ st.i < L.length → L.length ≤ st.i + k) ∧ b.t.length + b.r.length ≤ st.i ∧ st.o = 0)
  case atStart => exact ⟨_, _, _, _, _, HL1.out.loc, HBK.out, HF0.out, fun _ => by simp, by simp, rfl⟩
  case round =>
    obtain ⟨b, st, col, tv, rv, hlo, hbok, hbp, hk, hlen, ho⟩ := hrel
    obtain ⟨p1, c1, rfl⟩ : ∃ p1 c1, tv = .slice p1 b.t.length c1 := by obtain ⟨x, y, e⟩ := hbok.r1.shape; rw [List.length_map] at e; exact ⟨x, y, e⟩
    obtain ⟨p2, c2, rfl⟩ : ∃ p2 c2, rv = .slice p2 b.r.length c2 := by obtain ⟨x, y, e⟩ := hbok.r2.shape; rw [List.length_map] at e; exact ⟨x, y, e⟩
    have HLr : Hid (Loc w g V L wr st R bk0 26) := hlo
    have HBr : Hid (Bok wr U col b (.slice p1 b.t.length c1) (.slice p2 b.r.length c2)) := hbok
    have k0 : wr.cell? ⟨g, 0, none⟩ = some (.slice p L.length cap) := by rw [← HV.out]; exact hlo.env.c0
    have k1 := hlo.env.c1
    have k3 := hlo.env.c3
    have hpos := hlo.env.pos
    have hl7 := HLEN.out
    clear HL1 HBK HF0
    by_cases hin : st.e = 0 ∧ st.i < L.length
    · have hb : (st.e == 0) = true := by simpa using hin.1
      have hb2 : (st.i : Int) < (L.length : Int) := by omega
      obtain ⟨k2, rfl⟩ : ∃ k2, gk = k2 + 1 := ⟨gk - 1, by have := hk hin; omega⟩
      rw [bkp, if_pos hin] at hbp
      have HTW : Hid (∀ W x, Env W g V L st → Calls Tryd.prog 40 #[rp g, .string (txt x)] W fun e w' => e = .returned (.bool (see L x st)) ∧ Env w' g V L (tks L x st) ∧ Fr (fun i => i = g) W w') := fun W x hW => takes_any W g V L st x hW
      obtain ⟨nl, hnl⟩ : ∃ nl, L.length = nl := ⟨_, rfl⟩
      cases hb_T1 : see L [116, 121, 112, 101] st
      · rw [if_neg (by rw [hb_T1]; decide)] at hbp
        have T1 : Hid (∀ W, Env W g V L st → Calls Tryd.prog 40 #[rp g, .string ⟨#[116, 121, 112, 101]⟩] W fun e w' => e = .returned (.bool false) ∧ Env w' g V L st ∧ Fr (fun i => i = g) W w') := fun W hW => by
          have := takes_any W g V L st [116, 121, 112, 101] hW
          unfold tks at this
          rw [hb_T1] at this
          exact this
        cases hb_T2 : see L [114, 117, 108, 101] st
        · rw [if_neg (by rw [hb_T2]; decide)] at hbp
          have T2 : Hid (∀ W, Env W g V L st → Calls Tryd.prog 40 #[rp g, .string ⟨#[114, 117, 108, 101]⟩] W fun e w' => e = .returned (.bool false) ∧ Env w' g V L st ∧ Fr (fun i => i = g) W w') := fun W hW => by
            have := takes_any W g V L st [114, 117, 108, 101] hW
            unfold tks at this
            rw [hb_T2] at this
            exact this
          have hff := fal_i L st
          have HBP : Hid (bkp L k2 b (fal L st) = F ∧ ((fal L st).e = 0 ∧ (fal L st).i < L.length → L.length ≤ (fal L st).i + k2) ∧ b.t.length + b.r.length ≤ (fal L st).i ∧ (fal L st).o = 0) := by
            refine ⟨hbp, fun hq => ?_, by omega, by omega⟩
            exfalso
            have h1 := hq.1
            unfold fal at h1
            rw [if_pos hin.1] at h1
            revert h1
            simp only
            split <;> intro h1 <;> omega
          clear hb_T1 hb_T2 hbp hk hlen ho hlo hbok hpos hl7 hin hff HTW hnl
          go_wp2_with fail
          go_quiet (fail)
          have HLq0 : Hid (Loc w g V L (wr.drewN nq) st R bk0 26) := HLr.out.drewN nq
          have HBq0 : Hid (Bok (wr.drewN nq) U col b (.slice p1 b.t.length c1) (.slice p2 b.r.length c2)) := HBr.out.new ((Fr.refl _ _).drewN nq)
          go_wp2_with (first
            | (go_at_call_of 40 (Value.string ⟨#[116, 121, 112, 101]⟩); refine (T1.out _ HLq0.out.env).mono ?_; rintro e w3 ⟨rfl, he_, hf_⟩; have HL3 : Hid (Loc w g V L w3 st R bk0 26) := HLq0.out.call he_ hf_; have HB3 : Hid (Bok w3 U col b (.slice p1 b.t.length c1) (.slice p2 b.r.length c2)) := HBq0.out.fr hf_ HGU.out; clear he_ hf_)
            | (go_at_call_of 40 (Value.string ⟨#[114, 117, 108, 101]⟩); refine (T2.out _ HL3.out.env).mono ?_; rintro e w4 ⟨rfl, he_, hf_⟩; have HL4 : Hid (Loc w g V L w4 st R bk0 26) := HL3.out.call he_ hf_; have HB4 : Hid (Bok w4 U col b (.slice p1 b.t.length c1) (.slice p2 b.r.length c2)) := HB3.out.fr hf_ HGU.out; clear he_ hf_)
            | (go_at_call 43; refine (fail_any _ g V L st HL4.out.env).mono ?_; rintro e w5 ⟨rfl, he5, hf5⟩; have HL5 : Hid (Loc w g V L w5 (fal L st) R bk0 26) := HL4.out.call he5 hf5; have HB5 : Hid (Bok w5 U col b (.slice p1 b.t.length c1) (.slice p2 b.r.length c2)) := HB4.out.fr hf5 HGU.out; clear he5 hf5))
          go_roundg k2
          case measure => omega
          case rel => exact ⟨b, fal L st, col, _, _, HL5.out, HB5.out, HBP.out.1, HBP.out.2.1, HBP.out.2.2.1, HBP.out.2.2.2⟩
        · rw [if_pos hb_T2] at hbp
          have T2 : Hid (∀ W, Env W g V L st → Calls Tryd.prog 40 #[rp g, .string ⟨#[114, 117, 108, 101]⟩] W fun e w' => e = .returned (.bool true) ∧ Env w' g V L st.adv ∧ Fr (fun i => i = g) W w') := fun W hW => by
            have := takes_any W g V L st [114, 117, 108, 101] hW
            unfold tks at this
            rw [hb_T2] at this
            exact this
          have hgd := rle_g L st.adv ho
          have HP : Hid (∀ W, Env W g V L st.adv → Calls Tryd.prog 42 #[rp g] W (RPost W g V L (rle L st.adv).1 (rle L st.adv).2)) := fun W hW => rule_any W g V L st.adv hW ho
          obtain ⟨x, hx⟩ : ∃ x, (rle L st.adv).1 = x := ⟨_, rfl⟩
          obtain ⟨s2, hs2⟩ : ∃ s2, (rle L st.adv).2 = s2 := ⟨_, rfl⟩
          rw [hx, hs2] at HP hbp
          rw [hs2] at hgd
          obtain ⟨i0, a1, a2, a3, a4⟩ := info_parts infoR
          have HI : Hid (Tryd.prog.info? 44 = some i0 ∧ i0.zero = some (.agg #[.string ByteArray.empty, .slice none 0 0, .slice none 0 0, .slice none 0 0, .slice none 0 0, .string ByteArray.empty, .slice none 0 0]) ∧ i0.size = 7 ∧ i0.bytes = 152) := ⟨a1, a2, a3, a4⟩
          have e1 : st.adv.i = st.i + 1 := rfl
          have e2 : st.adv.o = st.o := rfl
          have HBP : Hid (bkp L k2 ⟨b.t, b.r ++ [x]⟩ s2 = F ∧ (s2.e = 0 ∧ s2.i < L.length → L.length ≤ s2.i + k2) ∧ b.t.length + b.r.length + 1 ≤ s2.i ∧ s2.o = 0) := ⟨hbp, fun _ => by have := hk hin; omega, by omega, by omega⟩
          have HLN : Hid ((b.r.map encR).length ≤ 800) := by show _ ≤ 800; rw [List.length_map]; omega
          obtain ⟨n', hn'⟩ : ∃ n', b.r.length + 1 = n' := ⟨_, rfl⟩
          have HNX : Hid ((b.r.map encR).length + 1 = n') := by show _ + 1 = n'; rw [List.length_map]; exact hn'
          clear a1 a2 a3 a4 hx hs2 hgd hbp hn' e1 e2 HTW
          clear hb_T1 hb_T2 hk hlen ho hlo hbok hpos hl7 hin hnl
          go_wp2_with fail
          go_quiet (fail)
          have HLq0 : Hid (Loc w g V L (wr.drewN nq) st R bk0 26) := HLr.out.drewN nq
          have HBq0 : Hid (Bok (wr.drewN nq) U col b (.slice p1 b.t.length c1) (.slice p2 b.r.length c2)) := HBr.out.new ((Fr.refl _ _).drewN nq)
          go_wp2_with (first
            | (go_at_call_of 40 (Value.string ⟨#[116, 121, 112, 101]⟩); refine (T1.out _ HLq0.out.env).mono ?_; rintro e w3 ⟨rfl, he_, hf_⟩; have HL3 : Hid (Loc w g V L w3 st R bk0 26) := HLq0.out.call he_ hf_; have HB3 : Hid (Bok w3 U col b (.slice p1 b.t.length c1) (.slice p2 b.r.length c2)) := HBq0.out.fr hf_ HGU.out; clear he_ hf_)
            | (go_at_call_of 40 (Value.string ⟨#[114, 117, 108, 101]⟩); refine (T2.out _ HL3.out.env).mono ?_; rintro e wa ⟨rfl, he_, hf_⟩; have HLa : Hid (Loc w g V L wa st.adv R bk0 26) := HL3.out.call he_ hf_; have HBa : Hid (Bok wa U col b (.slice p1 b.t.length c1) (.slice p2 b.r.length c2)) := HB3.out.fr hf_ HGU.out; clear he_ hf_))
          obtain ⟨c2', hc2⟩ : ∃ c2', paint col wa.heap.size 2 = c2' := ⟨_, rfl⟩
          have HPG : Hid (∀ i, wa.heap.size ≤ i → c2' i = 2) := fun i hi => by rw [← hc2]; exact paint_ge hi
          have HBd : Hid (Bok wa.drew U c2' b (.slice p1 b.t.length c1) (.slice p2 b.r.length c2)) := by
            have h1 := HBa.out.paint 2
            rw [hc2] at h1
            exact h1.new ((Fr.refl _ _).drew)
          have HLd : Hid (Loc w g V L wa.drew st.adv R bk0 26) := HLa.out.on ((Fr.refl _ _).drew)
          have HUW : Hid (U < wa.heap.size) := blk_lt HBa.out.blk
          have ca : wa.cell? ⟨U, 1, none⟩ = some (Value.slice p2 b.r.length c2) := by rw [cell_of_blk HBa.out.blk]; rfl
          clear hc2
          go_region_law (first
            | (refine step_call 42 ent_rule (by rfl) _ _ (by rfl) (rp g) (by rfl) _ (HP.out _ HLd.out.env) ?_; rintro e wq ⟨q1, d1, q2, d2, q3, d3, q4, d4, q5, d5, rfl, hhq, heq, hfq⟩; refine ⟨_, rfl, ?_⟩; have HLq : Hid (Loc w g V L wq s2 R bk0 26) := HLd.out.call heq hfq; have HBq : Hid (Bok wq U c2' b (.slice p1 b.t.length c1) (.slice p2 b.r.length c2)) := HBd.out.fr hfq HGU.out; have HHq : Hid (HoldsL wq (fun i => Sc U c2' 2 i ∧ (Value.slice p2 b.r.length c2).ownBlock ≠ some i) (encR x) [.string x.n, .slice q1 x.w.length d1, .slice q2 x.t.length d2, .slice q3 x.m.length d3, .slice q4 x.k.length d4, .string x.e.ty, .slice q5 x.e.v.length d5]) := (hhq).mono (fun i hi hl => ⟨⟨⟨Nat.lt_of_lt_of_le HUW.out hi, HPG.out i hi⟩, fun h8 => by { have h9 := HBd.out.r2.own_lt h8; have h7 : wa.drew.heap.size ≤ i := hi; omega }⟩, rfl⟩); have cq : wq.cell? ⟨U, 1, none⟩ = some (Value.slice p2 b.r.length c2) := by { rw [cell_of_blk HBq.out.blk]; rfl }; have cqa : ∀ o, (wq.alloc o).cell? ⟨U, 1, none⟩ = some (Value.slice p2 b.r.length c2) := fun o => by { rw [World.cell?_alloc_past _ _ _ (blk_lt HBq.out.blk), cell_of_blk HBq.out.blk]; rfl }; have HBQ : Hid (Sc U c2' 2 (wq.heap.size + 1)) := ⟨by { have := blk_lt HBq.out.blk; omega }, HPG.out _ (by { have h7 : wa.drew.heap.size ≤ wq.heap.size := hfq.size; have h6 : wa.drew.heap.size = wa.heap.size := rfl; omega })⟩; clear hhq heq hfq)
            | (refine step_app (by rfl) _ _ 24 (by rfl) 44 i0 (.agg #[.string ByteArray.empty, .slice none 0 0, .slice none 0 0, .slice none 0 0, .slice none 0 0, .string ByteArray.empty, .slice none 0 0]) 7 152 Tryd.underlying24 HI.out.1 HI.out.2.1 HI.out.2.2.1 HI.out.2.2.2 rfl (by omega) (Sc U c2' 2) (Value.slice p2 b.r.length c2) (b.r.map encR) (by rfl) (HBq.out.r2.alloc _) (encR x) [.string x.n, .slice q1 x.w.length d1, .slice q2 x.t.length d2, .slice q3 x.m.length d3, .slice q4 x.k.length d4, .string x.e.ty, .slice q5 x.e.v.length d5] ⟨wq.heap.size, 0, none⟩ (by rfl) (by rfl) (World.news_of_block (heap_alloc_new _ _)) (by rfl) (HHq.out.on ((Fr.refl _ _).alloc _)) (by simpa using HBQ.out) HLN.out (by omega) n' HNX.out ?_; intro p' cap' w5 hrw hgb hown; have HRW5 : Hid (Row w5 (Sc U c2' 2) 44 7 (.slice p' n' cap') (b.r.map encR ++ [encR x])) := hrw; have HGB : Hid ((wq.alloc (.cells [.string x.n, .slice q1 x.w.length d1, .slice q2 x.t.length d2, .slice q3 x.m.length d3, .slice q4 x.k.length d4, .string x.e.ty, .slice q5 x.e.v.length d5].toArray 44)).grownBy w5 (Value.slice p2 b.r.length c2).ownBlock ∧ ∀ k, (Value.slice p2 b.r.length c2).ownBlock = some k → Sc U c2' 2 k) := ⟨hgb, hown⟩; have HB5 : Hid (w5.heap[U]? = some (.cells #[(.slice p1 b.t.length c1), (.slice p2 b.r.length c2)] 26 (0, 0))) := (hgb.block U (by { have := blk_lt HBq.out.blk; simp; omega }) (fun e => by { have := (hown U e.symm).1; omega })).trans ((Below.heap_alloc _ _ _ (blk_lt HBq.out.blk)).trans HBq.out.blk); have HL5 : Hid (Loc w g V L w5 s2 R bk0 26) := (HLq.out.alloc _).grown hgb (fun k hk => by { have h1 := (hown k hk).1; have h2 := HRU.out; omega }); have c5 : w5.cell? ⟨U, 1, none⟩ = some (Value.slice p2 b.r.length c2) := by { rw [cell_of_blk HB5.out]; rfl }; have f5 := free_of_blk HB5.out 1; clear hrw hgb hown))
          all_goals
            go_wp2_with fail
            go_roundg k2
            case measure => omega
            case rel =>
              refine ⟨_, s2, c2', _, _, ?_, Bok.app2 HBq.out _ HGB.out.1 HGB.out.2 HRW5.out HB5.out, HBP.out.1, HBP.out.2.1, by have := HBP.out.2.2.1; simp only [List.length_append, List.length_singleton]; omega, HBP.out.2.2.2⟩
              exact HL5.out.apart1 U 1 _ HRU.out HWU.out
      · rw [if_pos hb_T1] at hbp
        have T1 : Hid (∀ W, Env W g V L st → Calls Tryd.prog 40 #[rp g, .string ⟨#[116, 121, 112, 101]⟩] W fun e w' => e = .returned (.bool true) ∧ Env w' g V L st.adv ∧ Fr (fun i => i = g) W w') := fun W hW => by
          have := takes_any W g V L st [116, 121, 112, 101] hW
          unfold tks at this
          rw [hb_T1] at this
          exact this
        have hgd := typ_g L st.adv
        have HP : Hid (∀ W, Env W g V L st.adv → Calls Tryd.prog 41 #[rp g] W (NPost W g V L 80 2 encF (typ L st.adv).1.n (typ L st.adv).1.f (typ L st.adv).2)) := fun W hW => eventType_any W g V L st.adv hW
        obtain ⟨x, hx⟩ : ∃ x, (typ L st.adv).1 = x := ⟨_, rfl⟩
        obtain ⟨s2, hs2⟩ : ∃ s2, (typ L st.adv).2 = s2 := ⟨_, rfl⟩
        rw [hx, hs2] at HP hbp
        rw [hs2] at hgd
        obtain ⟨i0, a1, a2, a3, a4⟩ := info_parts infoY
        have HI : Hid (Tryd.prog.info? 76 = some i0 ∧ i0.zero = some (.agg #[.string ByteArray.empty, .slice none 0 0]) ∧ i0.size = 2 ∧ i0.bytes = 40) := ⟨a1, a2, a3, a4⟩
        have e1 : st.adv.i = st.i + 1 := rfl
        have e2 : st.adv.o = st.o := rfl
        have HBP : Hid (bkp L k2 ⟨b.t ++ [x], b.r⟩ s2 = F ∧ (s2.e = 0 ∧ s2.i < L.length → L.length ≤ s2.i + k2) ∧ b.t.length + b.r.length + 1 ≤ s2.i ∧ s2.o = 0) := ⟨hbp, fun _ => by have := hk hin; omega, by omega, by omega⟩
        have HLN : Hid ((b.t.map encY).length ≤ 800) := by show _ ≤ 800; rw [List.length_map]; omega
        obtain ⟨n', hn'⟩ : ∃ n', b.t.length + 1 = n' := ⟨_, rfl⟩
        have HNX : Hid ((b.t.map encY).length + 1 = n') := by show _ + 1 = n'; rw [List.length_map]; exact hn'
        clear a1 a2 a3 a4 hx hs2 hgd hbp hn' e1 e2 HTW
        clear hb_T1 hk hlen ho hlo hbok hpos hl7 hin hnl
        go_wp2_with fail
        go_quiet (fail)
        have HLq0 : Hid (Loc w g V L (wr.drewN nq) st R bk0 26) := HLr.out.drewN nq
        have HBq0 : Hid (Bok (wr.drewN nq) U col b (.slice p1 b.t.length c1) (.slice p2 b.r.length c2)) := HBr.out.new ((Fr.refl _ _).drewN nq)
        go_wp2_with ((go_at_call_of 40 (Value.string ⟨#[116, 121, 112, 101]⟩); refine (T1.out _ HLq0.out.env).mono ?_; rintro e wa ⟨rfl, he_, hf_⟩; have HLa : Hid (Loc w g V L wa st.adv R bk0 26) := HLq0.out.call he_ hf_; have HBa : Hid (Bok wa U col b (.slice p1 b.t.length c1) (.slice p2 b.r.length c2)) := HBq0.out.fr hf_ HGU.out; clear he_ hf_))
        obtain ⟨c2', hc2⟩ : ∃ c2', paint col wa.heap.size 1 = c2' := ⟨_, rfl⟩
        have HPG : Hid (∀ i, wa.heap.size ≤ i → c2' i = 1) := fun i hi => by rw [← hc2]; exact paint_ge hi
        have HBd : Hid (Bok wa.drew U c2' b (.slice p1 b.t.length c1) (.slice p2 b.r.length c2)) := by
          have h1 := HBa.out.paint 1
          rw [hc2] at h1
          exact h1.new ((Fr.refl _ _).drew)
        have HLd : Hid (Loc w g V L wa.drew st.adv R bk0 26) := HLa.out.on ((Fr.refl _ _).drew)
        have HUW : Hid (U < wa.heap.size) := blk_lt HBa.out.blk
        have ca : wa.cell? ⟨U, 0, none⟩ = some (Value.slice p1 b.t.length c1) := by rw [cell_of_blk HBa.out.blk]; rfl
        clear hc2
        go_region_law (first
          | (refine step_call 41 ent_eventType (by rfl) _ _ (by rfl) (rp g) (by rfl) _ (HP.out _ HLd.out.env) ?_; rintro e wq ⟨p5, cap5, rfl, hhq, heq, hfq⟩; refine ⟨_, rfl, ?_⟩; have HLq : Hid (Loc w g V L wq s2 R bk0 26) := HLd.out.call heq hfq; have HBq : Hid (Bok wq U c2' b (.slice p1 b.t.length c1) (.slice p2 b.r.length c2)) := HBd.out.fr hfq HGU.out; have HHq : Hid (HoldsL wq (fun i => Sc U c2' 1 i ∧ (Value.slice p1 b.t.length c1).ownBlock ≠ some i) (encY x) [.string x.n, .slice p5 x.f.length cap5]) := (holdsY (t := x) hhq).mono (fun i hi hl => ⟨⟨⟨Nat.lt_of_lt_of_le HUW.out hi, HPG.out i hi⟩, fun h8 => by { have h9 := HBd.out.r1.own_lt h8; have h7 : wa.drew.heap.size ≤ i := hi; omega }⟩, rfl⟩); have cq : wq.cell? ⟨U, 0, none⟩ = some (Value.slice p1 b.t.length c1) := by { rw [cell_of_blk HBq.out.blk]; rfl }; have cqa : ∀ o, (wq.alloc o).cell? ⟨U, 0, none⟩ = some (Value.slice p1 b.t.length c1) := fun o => by { rw [World.cell?_alloc_past _ _ _ (blk_lt HBq.out.blk), cell_of_blk HBq.out.blk]; rfl }; have HBQ : Hid (Sc U c2' 1 (wq.heap.size + 1)) := ⟨by { have := blk_lt HBq.out.blk; omega }, HPG.out _ (by { have h7 : wa.drew.heap.size ≤ wq.heap.size := hfq.size; have h6 : wa.drew.heap.size = wa.heap.size := rfl; omega })⟩; clear hhq heq hfq)
          | (refine step_app (by rfl) _ _ 23 (by rfl) 76 i0 (.agg #[.string ByteArray.empty, .slice none 0 0]) 2 40 Tryd.underlying23 HI.out.1 HI.out.2.1 HI.out.2.2.1 HI.out.2.2.2 rfl (by omega) (Sc U c2' 1) (Value.slice p1 b.t.length c1) (b.t.map encY) (by rfl) (HBq.out.r1.alloc _) (encY x) [.string x.n, .slice p5 x.f.length cap5] ⟨wq.heap.size, 0, none⟩ (by rfl) (by rfl) (World.news_of_block (heap_alloc_new _ _)) (by rfl) (HHq.out.on ((Fr.refl _ _).alloc _)) (by simpa using HBQ.out) HLN.out (by omega) n' HNX.out ?_; intro p' cap' w5 hrw hgb hown; have HRW5 : Hid (Row w5 (Sc U c2' 1) 76 2 (.slice p' n' cap') (b.t.map encY ++ [encY x])) := hrw; have HGB : Hid ((wq.alloc (.cells [.string x.n, .slice p5 x.f.length cap5].toArray 76)).grownBy w5 (Value.slice p1 b.t.length c1).ownBlock ∧ ∀ k, (Value.slice p1 b.t.length c1).ownBlock = some k → Sc U c2' 1 k) := ⟨hgb, hown⟩; have HB5 : Hid (w5.heap[U]? = some (.cells #[(.slice p1 b.t.length c1), (.slice p2 b.r.length c2)] 26 (0, 0))) := (hgb.block U (by { have := blk_lt HBq.out.blk; simp; omega }) (fun e => by { have := (hown U e.symm).1; omega })).trans ((Below.heap_alloc _ _ _ (blk_lt HBq.out.blk)).trans HBq.out.blk); have HL5 : Hid (Loc w g V L w5 s2 R bk0 26) := (HLq.out.alloc _).grown hgb (fun k hk => by { have h1 := (hown k hk).1; have h2 := HRU.out; omega }); have c5 : w5.cell? ⟨U, 0, none⟩ = some (Value.slice p1 b.t.length c1) := by { rw [cell_of_blk HB5.out]; rfl }; have f5 := free_of_blk HB5.out 0; clear hrw hgb hown))
        all_goals
          go_wp2_with fail
          go_roundg k2
          case measure => omega
          case rel =>
            refine ⟨_, s2, c2', _, _, ?_, Bok.app1 HBq.out _ HGB.out.1 HGB.out.2 HRW5.out HB5.out, HBP.out.1, HBP.out.2.1, by have := HBP.out.2.2.1; simp only [List.length_append, List.length_singleton]; omega, HBP.out.2.2.2⟩
            exact HL5.out.apart1 U 0 _ HRU.out HWU.out
    · rw [bkp_end hin] at hbp
      subst hbp
      have HBr2 : Hid (Bok wr U col b (.slice p1 b.t.length c1) (.slice p2 b.r.length c2)) := HBr.out
      by_cases he : st.e = 0
      · have hb : (st.e == 0) = true := by simpa using he
        have hb2 : decide ((st.i : Int) < (L.length : Int)) = false := by simp; omega
        have hb3 : ¬ (st.i : Int) < (L.length : Int) := by omega
        have hb4 : (st.i < L.length) = False := by simp; omega
        clear hk hlen ho hlo hbok hpos hl7 hin he
        go_wp2_with fail
        go_quiet (fail)
        have HLq0 : Hid (Loc w g V L (wr.drewN nq) st R bk0 26) := HLr.out.drewN nq
        have HBq0 : Hid (Bok (wr.drewN nq) U col b (.slice p1 b.t.length c1) (.slice p2 b.r.length c2)) := HBr.out.new ((Fr.refl _ _).drewN nq)
        go_wp2_with (first
          | (refine wp_ld (by rfl) 26 _ (by rfl) U [.slice p1 b.t.length c1, .slice p2 b.r.length c2] 26 _ (by rfl) HBq0.out.blk Tryd.underlying26 rfl (by kernel_rfl) ?_)
          | (refine wp_st (by rfl) 26 _ _ (by rfl) R 0 bk0 26 (.agg #[.slice p1 b.t.length c1, .slice p2 b.r.length c2]) [.slice p1 b.t.length c1, .slice p2 b.r.length c2] (by rfl) (by rfl) (by rfl) HLq0.out.blk (Nat.le_of_ble_eq_true rfl) (by kernel_rfl) (by rfl) ?_; intro w9 hw9 hf9; have HL9 : Hid (Loc w g V L w9 st R [.slice p1 b.t.length c1, .slice p2 b.r.length c2] 26) := HLq0.out.st hw9 hf9; have HH9 : Hid (HoldsL w9 (fun i => w.heap.size ≤ i) (encB b) [.slice p1 b.t.length c1, .slice p2 b.r.length c2]) := HBq0.out.out HWU.out (fun i hi hl => hf9.block i hl (by { show ¬ i = R; have := HRU.out; omega })); clear hw9 hf9))
        refine ret_loc R _ _ _ HL9.out.blk rfl rfl (by rfl) Tryd.underlying26 rfl (by kernel_rfl) ?_
        exact ⟨p1, c1, p2, c2, rfl, HH9.out, HL9.out.env, HL9.out.fr⟩
      · have hb : (st.e == 0) = false := by simpa using he
        clear hk hlen ho hlo hbok hpos hl7 hin he
        go_wp2_with fail
        go_quiet (fail)
        have HLq0 : Hid (Loc w g V L (wr.drewN nq) st R bk0 26) := HLr.out.drewN nq
        have HBq0 : Hid (Bok (wr.drewN nq) U col b (.slice p1 b.t.length c1) (.slice p2 b.r.length c2)) := HBr.out.new ((Fr.refl _ _).drewN nq)
        go_wp2_with (first
          | (refine wp_ld (by rfl) 26 _ (by rfl) U [.slice p1 b.t.length c1, .slice p2 b.r.length c2] 26 _ (by rfl) HBq0.out.blk Tryd.underlying26 rfl (by kernel_rfl) ?_)
          | (refine wp_st (by rfl) 26 _ _ (by rfl) R 0 bk0 26 (.agg #[.slice p1 b.t.length c1, .slice p2 b.r.length c2]) [.slice p1 b.t.length c1, .slice p2 b.r.length c2] (by rfl) (by rfl) (by rfl) HLq0.out.blk (Nat.le_of_ble_eq_true rfl) (by kernel_rfl) (by rfl) ?_; intro w9 hw9 hf9; have HL9 : Hid (Loc w g V L w9 st R [.slice p1 b.t.length c1, .slice p2 b.r.length c2] 26) := HLq0.out.st hw9 hf9; have HH9 : Hid (HoldsL w9 (fun i => w.heap.size ≤ i) (encB b) [.slice p1 b.t.length c1, .slice p2 b.r.length c2]) := HBq0.out.out HWU.out (fun i hi hl => hf9.block i hl (by { show ¬ i = R; have := HRU.out; omega })); clear hw9 hf9))
        refine ret_loc R _ _ _ HL9.out.blk rfl rfl (by rfl) Tryd.underlying26 rfl (by kernel_rfl) ?_
        exact ⟨p1, c1, p2, c2, rfl, HH9.out, HL9.out.env, HL9.out.fr⟩
end Go.Proofs.YtnlmkdncifijlaaDoor
