/-
  A rule.
-/
import Derived.Test.YtnlmkdncifijlaaDoorC1
namespace Go.Proofs.YtnlmkdncifijlaaDoor
open Go.ChangeShapes Go.WideShapes Go.ChangeAt Go.RowKit Go.Maps
set_option linter.unusedVariables false
set_option linter.unusedSimpArgs false
set_option maxRecDepth 20000
theorem wnt_ok {L : List Tk} {x : List UInt8} {s : St} (h : (wnt L x s).e = 0) : (wnt L x s).i = s.i + 1 := by
  unfold wnt at h ⊢
  split
  · rfl
  · rename_i c
    rw [if_neg c] at h
    unfold fal at h
    split at h
    · exfalso
      revert h
      simp only
      split <;> intro h <;> omega
    · rename_i d
      exact absurd h d
theorem rlp_bad {L : List Tk} {u : Rl} {s : St} (h : ¬ s.e = 0) : ∀ n, rlp L n u s = (u, s)
  | 0 => rfl
  | n + 1 => by rw [rlp, if_neg h]
theorem rlp_end {L : List Tk} {u : Rl} {s : St} (h : s.e = 0) (h2 : see L [125] s = true) (n : Nat) : rlp L (n + 1) u s = (u, s.adv) := by rw [rlp, if_pos h, if_pos h2]
theorem rlp_step {L : List Tk} {u : Rl} {s : St} (h : s.e = 0) (h2 : see L [125] s = false) (n : Nat) : rlp L (n + 1) u s = rlp L n (cla L u s).1 (wnt L [59] (cla L u s).2) := by rw [rlp, if_pos h, if_neg (by rw [h2]; decide)]
theorem rlp_g (L : List Tk) : ∀ n u s, s.o = 0 → s.i ≤ (rlp L n u s).2.i ∧ (rlp L n u s).2.o = s.o
  | 0, u, s, _ => ⟨Nat.le_refl _, rfl⟩
  | n + 1, u, s, h0 => by
    have a := cla_g L u s h0
    have b := wnt_i L [59] (cla L u s).2
    have c := rlp_g L n (cla L u s).1 (wnt L [59] (cla L u s).2) (by omega)
    unfold rlp
    split
    · split
      · exact ⟨Nat.le_succ _, rfl⟩
      · omega
    · exact ⟨Nat.le_refl _, rfl⟩
theorem rle_g (L : List Tk) (s : St) (h0 : s.o = 0) : s.i ≤ (rle L s).2.i ∧ (rle L s).2.o = s.o := by
  have a := nam_g L s
  have b := wnt_i L [123] (nam L s).2
  have c := rlp_g L (L.length + 1) ⟨(nam L s).1, [], [], [], [], ⟨txt [], []⟩⟩ (wnt L [123] (nam L s).2) (by omega)
  unfold rle
  omega
def rl0 : List Value := [.string (txt []), .slice none 0 0, .slice none 0 0, .slice none 0 0, .slice none 0 0, .string (txt []), .slice none 0 0]
theorem Loc.wide {w0 w w' : World} {g R U : Nat} {V : Value} {L : List Tk} {s s' : St} {cs : List Value} {T : TypeId} (h : Loc w0 g V L w s R cs T) (he : Env w' g V L s') (hf : Fr (fun i => i = g ∨ U ≤ i) w w') (h1 : R < U) (h2 : w0.heap.size ≤ U) : Loc w0 g V L w' s' R cs T := by
  have hlo := h.lo
  have hhi := h.hi
  exact ⟨he, h.fr.then hf (fun i hi => hi.elim .inl (fun c => .inr (Nat.le_trans h2 c))), hlo, hhi, (hf.block R (blk_lt h.blk) (by rintro (c | c) <;> omega)).trans h.blk⟩
/-- What a rule leaves. -/
def RPost (w : World) (g : Nat) (V : Value) (L : List Tk) (r : Rl) (s : St) (e : Ending) (w' : World) : Prop :=
  ∃ p1 c1 p2 c2 p3 c3 p4 c4 p5 c5, e = .returned (.agg #[.string r.n, .slice p1 r.w.length c1, .slice p2 r.t.length c2, .slice p3 r.m.length c3, .slice p4 r.k.length c4, .string r.e.ty, .slice p5 r.e.v.length c5]) ∧ HoldsL w' (fun i => w.heap.size ≤ i) (encR r) [.string r.n, .slice p1 r.w.length c1, .slice p2 r.t.length c2, .slice p3 r.m.length c3, .slice p4 r.k.length c4, .string r.e.ty, .slice p5 r.e.v.length c5] ∧ Env w' g V L s ∧ Fr (fun i => i = g) w w'
theorem Rul.out {w w' : World} {U b : Nat} {col : Nat → Nat} {r : Rl} {wv tv mv kv ev : Value} (h : Rul w U col r wv tv mv kv ev) (hb : b ≤ U) (hs : ∀ i, U < i → i < w.heap.size → w'.heap[i]? = w.heap[i]?) : HoldsL w' (fun i => b ≤ i) (encR r) [.string r.n, wv, tv, mv, kv, .string r.e.ty, ev] := by
  have key : ∀ {j i : Nat}, Sc U col j i → i < w.heap.size → b ≤ i ∧ w'.heap[i]? = w.heap[i]? := fun hi hl => ⟨by have := hi.1; omega, hs _ hi.1 hl⟩
  exact .cons (.lit _) (.cons (h.r1.holds.mono fun i hi hl => key hi hl) (.cons (h.r2.holds.mono fun i hi hl => key hi hl) (.cons (h.r3.holds.mono fun i hi hl => key hi hl) (.cons (h.r4.holds.mono fun i hi hl => key hi hl) (.cons (.lit _) (.cons (h.r5.mono fun i hi hl => key hi hl) (.nil _ _)))))))
theorem Rul.shapes {w : World} {U : Nat} {col : Nat → Nat} {r : Rl} {wv tv mv kv ev : Value} (h : Rul w U col r wv tv mv kv ev) : ∃ p1 c1 p2 c2 p3 c3 p4 c4 p5 c5, wv = .slice p1 r.w.length c1 ∧ tv = .slice p2 r.t.length c2 ∧ mv = .slice p3 r.m.length c3 ∧ kv = .slice p4 r.k.length c4 ∧ ev = .slice p5 r.e.v.length c5 := by
  obtain ⟨p1, c1, e1⟩ := h.r1.shape
  obtain ⟨p2, c2, e2⟩ := h.r2.shape
  obtain ⟨p3, c3, e3⟩ := h.r3.shape
  obtain ⟨p4, c4, e4⟩ := h.r4.shape
  obtain ⟨p5, c5, e5⟩ := row_shape h.r5
  rw [List.length_map] at e1 e2 e3 e4 e5
  exact ⟨p1, c1, p2, c2, p3, c3, p4, c4, p5, c5, e1, e2, e3, e4, e5⟩
set_option maxHeartbeats 8000000 in
theorem rule_any (w : World) (g : Nat) (V : Value) (L : List Tk) (s : St) (h : Env w g V L s) (h0 : s.o = 0) : Calls Tryd.prog 42 #[rp g] w (RPost w g V L (rle L s).1 (rle L s).2) := by
  have HL0 : Hid (Loc w g V L (w.alloc (.cells rl0.toArray 44)) s w.heap.size rl0 44) := Loc.start h rl0 _
  have HGW : Hid (g < w.heap.size) := blk_lt h.blk
  have HLEN : Hid (L.length ≤ 700) := h.len
  have q1 := nam_g L s
  unfold rle
  obtain ⟨a, h_a⟩ : ∃ a, (nam L s).1 = a := ⟨_, rfl⟩
  obtain ⟨s1, h_s1⟩ : ∃ s1, (nam L s).2 = s1 := ⟨_, rfl⟩
  rw [h_s1] at q1
  rw [h_a, h_s1]
  have q2 := wnt_i L [123] s1
  obtain ⟨s2, h_s2⟩ : ∃ s2, wnt L [123] s1 = s2 := ⟨_, rfl⟩
  rw [h_s2] at q2 ⊢
  have HA : Hid (∀ W, Env W g V L s → Calls Tryd.prog 81 #[rp g] W fun e w' => e = .returned (.string a) ∧ Env w' g V L s1 ∧ Fr (fun i => i = g) W w') := fun W hW => by
    have := ident_any W g V L s hW
    rw [h_a, h_s1] at this
    exact this
  have HW : Hid (∀ W, Env W g V L s1 → Calls Tryd.prog 82 #[rp g, .string ⟨#[123]⟩] W fun e w' => e = .returned (.tuple #[]) ∧ Env w' g V L s2 ∧ Fr (fun i => i = g) W w') := fun W hW => by
    have := wants_any W g V L s1 [123] hW
    rw [h_s2] at this
    exact this
  obtain ⟨F, hF⟩ : ∃ F, rlp L (L.length + 1) ⟨a, [], [], [], [], ⟨txt [], []⟩⟩ s2 = F := ⟨_, rfl⟩
  rw [hF]
  have HF0 : Hid (rlp L (L.length + 1) ⟨a, [], [], [], [], ⟨txt [], []⟩⟩ s2 = F) := hF
  have HO2 : Hid (s2.o = 0) := by show s2.o = 0; omega
  clear h h0 q1 q2 h_a h_s1 h_s2 hF
  go_enter Tryd.func42, Tryd.ntmps42
  go_wp2_with (first
    | (go_at_call 81; refine (HA.out _ HL0.out.env).mono ?_; rintro e w1 ⟨rfl, he1, hf1⟩; have HL1 : Hid (Lo2 w g V L (w1.alloc (.cells #[.string a, .slice none 0 0, .slice none 0 0, .slice none 0 0, .slice none 0 0, .string (txt []), .slice none 0 0] 44)) s1 w.heap.size rl0 44 w1.heap.size [.string a, .slice none 0 0, .slice none 0 0, .slice none 0 0, .slice none 0 0, .string (txt []), .slice none 0 0] 44) := (HL0.out.call he1 hf1).two _ _; clear he1 hf1)
    | (go_at_call 82; refine (HW.out _ HL1.out.env).mono ?_; rintro e w2 ⟨rfl, he2, hf2⟩; have HL2 : Hid (Lo2 w g V L w2 s2 w.heap.size rl0 44 w1.heap.size [.string a, .slice none 0 0, .slice none 0 0, .slice none 0 0, .slice none 0 0, .string (txt []), .slice none 0 0] 44) := HL1.out.call he2 hf2; clear he2 hf2))
  obtain ⟨U, hU⟩ : ∃ U, w1.heap.size = U := ⟨_, rfl⟩
  obtain ⟨R, hR⟩ : ∃ R, w.heap.size = R := ⟨_, rfl⟩
  have HRU : Hid (R < U) := by show R < U; rw [← hR, ← hU]; have := HL2.out.lo2; have := HL2.out.ne; omega
  have HWU : Hid (w.heap.size ≤ U) := by show w.heap.size ≤ U; rw [← hU]; exact HL2.out.lo2
  have HGU : Hid (g < U) := by show g < U; have := HGW.out; have := HWU.out; omega
  rw [hU, hR] at HL2
  rw [hU, hR]
  have HRL : Hid (Rul w2 U (fun _ => 0) ⟨a, [], [], [], [], ⟨txt [], []⟩⟩ (.slice none 0 0) (.slice none 0 0) (.slice none 0 0) (.slice none 0 0) (.slice none 0 0)) := ⟨HL2.out.blk2, Row.nil _ _ _ _, Row.nil _ _ _ _, Row.nil _ _ _ _, Row.nil _ _ _ _, (Row.nil _ _ _ _).holds⟩
  have HRR : Hid (w.heap.size = R) := hR
  clear hU hR HL0 HL1
  go_loopg [] (L.length + 1) (fun k wr => ∃ (u : Rl) (st : St) (col : Nat → Nat) (wv tv mv kv ev : Value), Loc w g V L wr st R rl0 44 ∧ Rul wr U col u wv tv mv kv ev ∧ rlp L k u st = F ∧ (st.e = 0 → L.length < st.i + k) ∧ u.w.length + u.t.length + u.m.length + u.k.length ≤ st.i ∧ st.o = 0)
  case atStart => exact ⟨_, s2, _, _, _, _, _, _, HL2.out.loc, HRL.out, HF0.out, fun _ => by omega, by simp, HO2.out⟩
  case round =>
    obtain ⟨u, st, col, wv, tv, mv, kv, ev, hlo, hrul, hrp, hk, hlen, ho⟩ := hrel
    obtain ⟨p1, c1, p2, c2, p3, c3, p4, c4, p5, c5, rfl, rfl, rfl, rfl, rfl⟩ := hrul.shapes
    have HLr : Hid (Loc w g V L wr st R rl0 44) := hlo
    have HRr : Hid (Rul wr U col u (.slice p1 u.w.length c1) (.slice p2 u.t.length c2) (.slice p3 u.m.length c3) (.slice p4 u.k.length c4) (.slice p5 u.e.v.length c5)) := hrul
    have cw := hlo.env.c3
    have hpos := hlo.env.pos
    clear HL2 HRL HF0
    by_cases he : st.e = 0
    · have hb : (st.e == 0) = true := by simpa using he
      obtain ⟨k2, rfl⟩ : ∃ k2, gk = k2 + 1 := ⟨gk - 1, by have := hk he; omega⟩
      have HT := takes_any wr g V L st [125] hlo.env
      unfold tks at HT
      cases hm : see L [125] st
      · rw [hm] at HT
        simp only [Bool.false_eq_true, if_false] at HT
        have HT2 : Hid (Calls Tryd.prog 40 #[rp g, .string ⟨#[125]⟩] wr fun e w' => e = .returned (.bool false) ∧ Env w' g V L st ∧ Fr (fun i => i = g) wr w') := HT
        rw [rlp_step he hm] at hrp
        have hcg := cla_g L u st ho
        have hwg := wnt_i L [59] (cla L u st).2
        have hwo := @wnt_ok L [59] (cla L u st).2
        have hl7 := HLEN.out
        have HCL : Hid (∀ W col wv tv mv kv ev, Env W g V L st → Rul W U col u wv tv mv kv ev → Calls Tryd.prog 85 #[rp g, .pointer (some ⟨U, 0, none⟩)] W (CLPost W g V L U (cla L u st).1 (cla L u st).2)) := fun W col wv tv mv kv ev hW hR => clause_any W g V L st U col u wv tv mv kv ev hW hR HGU.out ho (by omega)
        obtain ⟨u2, hu2⟩ : ∃ u2, (cla L u st).1 = u2 := ⟨_, rfl⟩
        obtain ⟨s4, hs4⟩ : ∃ s4, (cla L u st).2 = s4 := ⟨_, rfl⟩
        rw [hu2, hs4] at hrp hcg HCL
        rw [hs4] at hwg hwo
        obtain ⟨s5, h_s5⟩ : ∃ s5, wnt L [59] s4 = s5 := ⟨_, rfl⟩
        rw [h_s5] at hrp hwg hwo
        have HS : Hid (∀ W, Env W g V L s4 → Calls Tryd.prog 82 #[rp g, .string ⟨#[59]⟩] W fun e w' => e = .returned (.tuple #[]) ∧ Env w' g V L s5 ∧ Fr (fun i => i = g) W w') := fun W hW => by
          have := wants_any W g V L s4 [59] hW
          rw [h_s5] at this
          exact this
        have HRP : Hid (rlp L k2 u2 s5 = F ∧ (s5.e = 0 → L.length < s5.i + k2) ∧ u2.w.length + u2.t.length + u2.m.length + u2.k.length ≤ s5.i ∧ s5.o = 0) := ⟨hrp, fun h5 => by have := hwo h5; have := hk he; omega, by omega, by omega⟩
        clear HT hm hrp hcg hwg hwo hu2 hs4 h_s5 hk hlen ho hlo hrul he hpos hl7
        go_wp2_with (first
          | (go_at_call 40; refine HT2.out.mono ?_; rintro e w3 ⟨rfl, he3, hf3⟩; have HL3 : Hid (Loc w g V L w3 st R rl0 44) := HLr.out.call he3 hf3; have HR3 : Hid (Rul w3 U col u (.slice p1 u.w.length c1) (.slice p2 u.t.length c2) (.slice p3 u.m.length c3) (.slice p4 u.k.length c4) (.slice p5 u.e.v.length c5)) := HRr.out.fr hf3 HGU.out; clear he3 hf3)
          | (go_at_call 85; refine (HCL.out _ _ _ _ _ _ _ HL3.out.env HR3.out).mono ?_; rintro e w4 ⟨rfl, col4, wv4, tv4, mv4, kv4, ev4, he4, hr4, hf4⟩; have HL4 : Hid (Loc w g V L w4 s4 R rl0 44) := HL3.out.wide he4 hf4 HRU.out HWU.out; have HR4 : Hid (Rul w4 U col4 u2 wv4 tv4 mv4 kv4 ev4) := hr4; clear he4 hr4 hf4)
          | (go_at_call 82; refine (HS.out _ HL4.out.env).mono ?_; rintro e w5 ⟨rfl, he5, hf5⟩; have HL5 : Hid (Loc w g V L w5 s5 R rl0 44) := HL4.out.call he5 hf5; have HR5 : Hid (Rul w5 U col4 u2 wv4 tv4 mv4 kv4 ev4) := HR4.out.fr hf5 HGU.out; clear he5 hf5))
        go_roundg k2
        case measure => omega
        case rel => exact ⟨u2, s5, col4, wv4, tv4, mv4, kv4, ev4, HL5.out, HR5.out, HRP.out.1, HRP.out.2.1, HRP.out.2.2.1, HRP.out.2.2.2⟩
      · rw [hm] at HT
        simp only [if_true] at HT
        have HT2 : Hid (Calls Tryd.prog 40 #[rp g, .string ⟨#[125]⟩] wr fun e w' => e = .returned (.bool true) ∧ Env w' g V L st.adv ∧ Fr (fun i => i = g) wr w') := HT
        rw [rlp_end he hm] at hrp
        subst hrp
        clear HT hm hk hlen ho hlo hrul he hpos
        go_wp2_with (first
          | (go_at_call 40; refine HT2.out.mono ?_; rintro e w3 ⟨rfl, he3, hf3⟩; have HL3 : Hid (Loc w g V L w3 st.adv R rl0 44) := HLr.out.call he3 hf3; have HR3 : Hid (Rul w3 U col u (.slice p1 u.w.length c1) (.slice p2 u.t.length c2) (.slice p3 u.m.length c3) (.slice p4 u.k.length c4) (.slice p5 u.e.v.length c5)) := HRr.out.fr hf3 HGU.out; clear he3 hf3)
          | (refine wp_ldu (by rfl) 44 _ (by rfl) U [.string u.n, .slice p1 u.w.length c1, .slice p2 u.t.length c2, .slice p3 u.m.length c3, .slice p4 u.k.length c4, .string u.e.ty, .slice p5 u.e.v.length c5] 44 _ (by rfl) HR3.out.blk Tryd.underlying44 rfl (by kernel_rfl) ?_; intro u9 hu9; have HU9 : Hid (u9.cells = ([.string u.n, .slice p1 u.w.length c1, .slice p2 u.t.length c2, .slice p3 u.m.length c3, .slice p4 u.k.length c4, .string u.e.ty, .slice p5 u.e.v.length c5] : List Value).toArray) := hu9; clear hu9)
          | (refine wp_st (by rfl) 44 _ _ (by rfl) R 0 rl0 44 u9 [.string u.n, .slice p1 u.w.length c1, .slice p2 u.t.length c2, .slice p3 u.m.length c3, .slice p4 u.k.length c4, .string u.e.ty, .slice p5 u.e.v.length c5] (by rfl) (by rfl) HU9.out HL3.out.blk (Nat.le_of_ble_eq_true rfl) (by kernel_rfl) (by rfl) ?_; intro w9 hw9 hf9; have HL9 : Hid (Loc w g V L w9 st.adv R [.string u.n, .slice p1 u.w.length c1, .slice p2 u.t.length c2, .slice p3 u.m.length c3, .slice p4 u.k.length c4, .string u.e.ty, .slice p5 u.e.v.length c5] 44) := HL3.out.st hw9 hf9; have HH9 : Hid (HoldsL w9 (fun i => w.heap.size ≤ i) (encR u) [.string u.n, .slice p1 u.w.length c1, .slice p2 u.t.length c2, .slice p3 u.m.length c3, .slice p4 u.k.length c4, .string u.e.ty, .slice p5 u.e.v.length c5]) := HR3.out.out HWU.out (fun i hi hl => hf9.block i hl (by { show ¬ i = R; have := HRU.out; omega })); clear hw9 hf9))
        refine ret_loc R _ _ _ HL9.out.blk rfl rfl (by rfl) Tryd.underlying44 rfl (by kernel_rfl) ?_
        exact ⟨p1, c1, p2, c2, p3, c3, p4, c4, p5, c5, rfl, HH9.out, HL9.out.env, HL9.out.fr⟩
    · have hb : (st.e == 0) = false := by simpa using he
      rw [rlp_bad he] at hrp
      subst hrp
      clear hk hlen ho hlo hrul he hpos
      go_wp2_with (first
        | (refine wp_ldu (by rfl) 44 _ (by rfl) U [.string u.n, .slice p1 u.w.length c1, .slice p2 u.t.length c2, .slice p3 u.m.length c3, .slice p4 u.k.length c4, .string u.e.ty, .slice p5 u.e.v.length c5] 44 _ (by rfl) HRr.out.blk Tryd.underlying44 rfl (by kernel_rfl) ?_; intro u9 hu9; have HU9 : Hid (u9.cells = ([.string u.n, .slice p1 u.w.length c1, .slice p2 u.t.length c2, .slice p3 u.m.length c3, .slice p4 u.k.length c4, .string u.e.ty, .slice p5 u.e.v.length c5] : List Value).toArray) := hu9; clear hu9)
        | (refine wp_st (by rfl) 44 _ _ (by rfl) R 0 rl0 44 u9 [.string u.n, .slice p1 u.w.length c1, .slice p2 u.t.length c2, .slice p3 u.m.length c3, .slice p4 u.k.length c4, .string u.e.ty, .slice p5 u.e.v.length c5] (by rfl) (by rfl) HU9.out HLr.out.blk (Nat.le_of_ble_eq_true rfl) (by kernel_rfl) (by rfl) ?_; intro w9 hw9 hf9; have HL9 : Hid (Loc w g V L w9 st R [.string u.n, .slice p1 u.w.length c1, .slice p2 u.t.length c2, .slice p3 u.m.length c3, .slice p4 u.k.length c4, .string u.e.ty, .slice p5 u.e.v.length c5] 44) := HLr.out.st hw9 hf9; have HH9 : Hid (HoldsL w9 (fun i => w.heap.size ≤ i) (encR u) [.string u.n, .slice p1 u.w.length c1, .slice p2 u.t.length c2, .slice p3 u.m.length c3, .slice p4 u.k.length c4, .string u.e.ty, .slice p5 u.e.v.length c5]) := HRr.out.out HWU.out (fun i hi hl => hf9.block i hl (by { show ¬ i = R; have := HRU.out; omega })); clear hw9 hf9))
      refine ret_loc R _ _ _ HL9.out.blk rfl rfl (by rfl) Tryd.underlying44 rfl (by kernel_rfl) ?_
      exact ⟨p1, c1, p2, c2, p3, c3, p4, c4, p5, c5, rfl, HH9.out, HL9.out.env, HL9.out.fr⟩
end Go.Proofs.YtnlmkdncifijlaaDoor
