/-
  The plan of a rule, by the program.
-/
import Derived.Test.YtnlmknbhppdliaaGreatDoorDs
import Derived.Test.YtnlmknbhppdliaaGreatDoorRc
set_option maxHeartbeats 64000000
namespace Go.Proofs.YtnlmknbhppdliaaGreatDoor.Chk
open Go.ChangeShapes Go.WideShapes Go.ChangeAt Go.RowKit Go.Maps
open B8 (Mx OwnM New zA5 lowZ leaZ greZ neeZ Bnd Gd fw)
set_option linter.unusedVariables false
set_option linter.unusedSimpArgs false
set_option maxRecDepth 20000
theorem zB3 {P : Program} {fn : Func} {p q : Tmp} {ty : TypeId} {a : Act} {w : World} {Q : Ending → World → Prop} (R : Nat) (cs : List Value) (T : TypeId) (d : TypeDesc) (hb : w.heap[R]? = some (.cells cs.toArray T (0, 0))) (h : fn.results = #[.cell p ty, .tmp q]) (hd : a.defers = [])
  (hp : a.tmps.getD p undef = .pointer (some ⟨R, 0, none⟩)) (hu : P.underlying ty = some d) (hr : d.isRow = true) (hi : (P.info? ty).map (·.size) = some cs.length) (hq : Q (.returned (.tuple #[.agg cs.toArray, a.tmps.getD q undef])) w) : bodyPost P fn Q .ret a w := by
 refine bodyPost_ret ?_ hd hq
 have hp' : a.tmps[p]?.getD undef = .pointer (some ⟨R, 0, none⟩) := by simpa using hp
 simp [results, h, hp', asAddr, run_loadVar_mid w R 0 ty cs d (zAL hb) hu hr hi]
def pW (M : Mx) (c : Nat) (d : Int) : Nat → Int := fun i => neeZ (greZ M (2 * i + 1) c) d
def pN (L : Nat → Option Mx) (c : Nat) (d : Int) : Nat → Int := fun i => match L i with
  | none => 0
  | some R => max (neeZ (greZ R (2 * c + 1) c) d) 0
def mn0 : Mn := ⟨0, txt [], pt0'⟩
def pM (ms : List Mn) (d : Int) : Nat → Int := fun i => neeZ (ms.getD i mn0).p.n d
def RwI (w : World) (v : Value) (n : Nat) (z : Nat → Int) : Prop := B8.RowAt w v n z ∧ ∀ g off cap, v = .slice (some ⟨g, off, none⟩) n cap → ∃ cs, w.heap[g]? = some (.cells cs 3 (0, 0))
theorem RwI.nil (w : World) (z : Nat → Int) : RwI w (.slice none 0 0) 0 z := ⟨⟨none, 0, rfl, Nat.le_refl _, by unfold maxLen; omega, fun h => absurd h (by omega)⟩, fun g off cap h => by cases h⟩
theorem RwI.later {w W : World} {v : Value} {n : Nat} {z : Nat → Int} (h : RwI w v n z) (hb : Below w.heap.size w W) : RwI W v n z := by
 obtain ⟨⟨p, cap, e, h1, h2, h3⟩, h4⟩ := h
 refine ⟨⟨p, cap, e, h1, h2, fun h0 => ?_⟩, fun g off c e2 => ?_⟩
 . obtain ⟨g, off, rfl, hc⟩ := h3 h0
   obtain ⟨cs, hcs⟩ := h4 g off cap e
   exact ⟨g, off, rfl, fun k hk => (hb.cell (p := ⟨g, off + k, none⟩) (zAE hcs)).trans (hc k hk)⟩
 . obtain ⟨cs, hcs⟩ := h4 g off c e2
   exact ⟨cs, (hb.block _ (zAE hcs)).trans hcs⟩
theorem RwI.fr {w W : World} {v : Value} {n b : Nat} {z : Nat → Int} {cs : Array Value} (h : RwI w v n z) (hb : w.heap[b]? = some (.cells cs 69 (0, 0))) (hf : Fr (fun x => x = b) w W) : RwI W v n z := by
 obtain ⟨⟨p, cap, e, h1, h2, h3⟩, h4⟩ := h
 have hne : ∀ g cs', w.heap[g]? = some (.cells cs' 3 (0, 0)) → g ≠ b := fun g cs' hg e2 => by
   rw [e2, hb] at hg
   simp only [Option.some.injEq, Obj.cells.injEq] at hg
   exact absurd hg.2.1 (by decide)
 refine ⟨⟨p, cap, e, h1, h2, fun h0 => ?_⟩, fun g off c e2 => ?_⟩
 . obtain ⟨g, off, rfl, hc⟩ := h3 h0
   obtain ⟨cs', hcs⟩ := h4 g off cap e
   have hblk := hf.block _ (zAE hcs) (hne _ _ hcs)
   refine ⟨g, off, rfl, fun k hk => ?_⟩
   have := hc k hk
   rw [zAB hcs] at this
   rw [zAB (hblk.trans hcs)]
   exact this
 . obtain ⟨cs', hcs⟩ := h4 g off c e2
   exact ⟨cs', (hf.block _ (zAE hcs) (hne _ _ hcs)).trans hcs⟩
def Pres (w' : World) (e : Ending) (ws ts : List Pt) (ms : List Mn) (ks : List Lk) : Prop :=
 match rmx ws ws ks with
 | none => e = .returned (.tuple #[.agg #[.int .i64 0, .slice none 0 0, .slice none 0 0, .slice none 0 0], .int .i64 16])
 | some M => match dly ws.length (nmx ws ks ts) ts.length with
  | none => e = .returned (.tuple #[.agg #[.int .i64 0, .slice none 0 0, .slice none 0 0, .slice none 0 0], .int .i64 15])
  | some d => ∃ va vb vc, e = .returned (.tuple #[.agg #[.int .i64 d, va, vb, vc], .int .i64 0]) ∧ RwI w' va ws.length (pW M ws.length d) ∧ RwI w' vb ts.length (pN (nmx ws ks ts) ws.length d) ∧ RwI w' vc ms.length (pM ms d)
def RwN (B : Nat) (w : World) (v : Value) (n : Nat) (z : Nat → Int) : Prop := RwI w v n z ∧ ∀ g off cap, v = .slice (some ⟨g, off, none⟩) n cap → B ≤ g
def zHR (B : Nat) (w' : World) (e : Ending) (ws ts : List Pt) (ms : List Mn) (ks : List Lk) : Prop :=
 match rmx ws ws ks with
 | none => e = .returned (.tuple #[.agg #[.int .i64 0, .slice none 0 0, .slice none 0 0, .slice none 0 0], .int .i64 16])
 | some M => match dly ws.length (nmx ws ks ts) ts.length with
  | none => e = .returned (.tuple #[.agg #[.int .i64 0, .slice none 0 0, .slice none 0 0, .slice none 0 0], .int .i64 15])
  | some d => ∃ va vb vc, e = .returned (.tuple #[.agg #[.int .i64 d, va, vb, vc], .int .i64 0]) ∧ RwN B w' va ws.length (pW M ws.length d) ∧ RwN B w' vb ts.length (pN (nmx ws ks ts) ws.length d) ∧ RwN B w' vc ms.length (pM ms d)
theorem presN {B : Nat} {w' : World} {e : Ending} {ws ts : List Pt} {ms : List Mn} {ks : List Lk} (h : zHR B w' e ws ts ms ks) : Pres w' e ws ts ms ks := by
 unfold zHR at h
 unfold Pres
 cases h1 : rmx ws ws ks with
 | none => simp only [h1] at h ⊢; exact h
 | some M =>
  simp only [h1] at h ⊢
  cases h2 : dly ws.length (nmx ws ks ts) ts.length with
  | none => simp only [h2] at h ⊢; exact h
  | some d =>
   simp only [h2] at h ⊢
   obtain ⟨va, vb, vc, h3, q1, q2, q3⟩ := h
   exact ⟨va, vb, vc, h3, q1.1, q2.1, q3.1⟩
theorem RwI.new {B : Nat} {w : World} {g n : Nat} {z : Nat → Int} (h : RwI w (.slice (some ⟨g, 0, none⟩) n n) n z) (hb : B ≤ g) : RwN B w (.slice (some ⟨g, 0, none⟩) n n) n z := ⟨h, fun g' off cap e => by
  simp only [Value.slice.injEq, Option.some.injEq, Addr.mk.injEq] at e
  omega⟩
/-! ### What is reckoned stays small -/
theorem clo_bnd {n : Nat} {r : Option Mx} {R : Mx} (hn : n ≤ 12) (h : ∀ M, r = some M → Mok n M) (e : clo n r = some R) : Bnd n 8796093022208 R ∧ ∀ i, i < n → R i i = 0 := by
 cases r with
 | none => cases e
 | some M =>
  have e : (if B8.ngb (fw M n) n = false then some (fw M n) else none) = some R := e
  by_cases c : B8.ngb (fw M n) n = false
  . rw [if_pos c] at e
    obtain rfl := Option.some.inj e
    exact ⟨B8.fw_small hn (h M rfl).2 (Nat.le_refl _), fun i hi => (B8.gd_iff (h M rfl).1).2 c n (Nat.le_refl _) i hi⟩
  . rw [if_neg c] at e; cases e
theorem zEU {ws sp : List Pt} {ks : List Lk} {R : Mx} (hs : 2 * sp.length ≤ 12) (hw : Wok ws) (hl : Lok sp ks) (e : rmx ws sp ks = some R) : Bnd (2 * sp.length) 8796093022208 R ∧ ∀ i, i < 2 * sp.length → R i i = 0 :=
  clo_bnd hs (fun M hM => zFD hl (zGV _ hw) hM) e
theorem zJH {Z : Mx} {n r : Nat} (h : Bnd n 8796093022208 Z) (hr : r < n) : ∀ {c : Nat}, 2 * c ≤ n → leaZ Z r c = nob ∨ (-8796093022208 ≤ leaZ Z r c ∧ leaZ Z r c ≤ 8796093022208)
 | 0, _ => .inl rfl
 | c + 1, hc => by
  have ih := zJH h hr (c := c) (by omega)
  have := h r (2 * c + 1) hr (by omega)
  unfold nob at ih ⊢
  rw [leaZ]
  omega
theorem zGN {Z : Mx} {n r : Nat} (h : Bnd n 8796093022208 Z) (hr : r < n) (hn : 1 < n) : ∀ {c : Nat}, 2 * c ≤ n → greZ Z r c = nob ∨ (-8796093022208 ≤ greZ Z r c ∧ greZ Z r c ≤ 8796093022208)
 | 0, _ => h 1 r hn hr
 | c + 1, hc => by
  have ih := zGN h hr hn (c := c) (by omega)
  have := h (2 * c + 1) r (by omega) hr
  unfold nob at ih ⊢
  rw [greZ]
  omega
theorem dly_in {c N : Nat} {L : Nat → Option Mx} (h : ∀ i R, i < N → L i = some R → Bnd (2 * (c + 1)) 8796093022208 R) : ∀ {k : Nat} {d : Int}, k ≤ N → dly c L k = some d → 0 ≤ d ∧ d ≤ 8796093022208
 | 0, d, _, e => by obtain rfl := Option.some.inj e; decide
 | k + 1, d, hk, e => by
  rw [dly] at e
  cases h1 : dly c L k with
  | none => rw [h1] at e; cases e
  | some x =>
   have ih := dly_in h (k := k) (by omega) h1
   rw [h1] at e
   cases h2 : L k with
   | none => simp only [h2] at e; obtain rfl := Option.some.inj e; exact ih
   | some R =>
    simp only [h2] at e
    have h3 := zJH (h k R (by omega) h2) (r := 2 * c + 1) (by omega) (c := c) (by omega)
    by_cases q : leaZ R (2 * c + 1) c = nob
    . rw [if_pos q] at e; cases e
    . rw [if_neg q] at e
      obtain rfl := Option.some.inj e
      rcases h3 with h3 | h3
      . exact absurd h3 q
      . omega
/-! ### A plan is made -/
def pl3 (i : Nat) : Prop := i = 4 ∨ i = 8 ∨ i = 12
def Dsq (vs : Nat → Value) (W : World) : Prop := ∀ i g n, pl3 i → vs i = .slice (some ⟨g, 0, none⟩) n n → g < W.heap.size ∧ ∀ j h m, pl3 j → j ≠ i → vs j = .slice (some ⟨h, 0, none⟩) m m → h ≠ g
theorem Dsq.other {vs : Nat → Value} {W W' : World} {i : Nat} {v : Value} (h : Dsq vs W) (hs : W.heap.size ≤ W'.heap.size) (hi : ¬ pl3 i) : Dsq (upv vs i v) W' := by
  intro k g n hk e
  rw [zAS vs v (fun c => hi (by rw [← c]; exact hk))] at e
  obtain ⟨h1, h2⟩ := h k g n hk e
  refine ⟨by omega, fun j h' m hj hne ej => h2 j h' m hj hne ?_⟩
  rw [zAS vs v (fun c => hi (by rw [← c]; exact hj))] at ej
  exact ej
theorem Dsq.new {vs : Nat → Value} {W W' : World} {i m : Nat} (h : Dsq vs W) (hs : W'.heap.size = W.heap.size + 1) : Dsq (upv vs i (.slice (some ⟨W.heap.size, 0, none⟩) m m)) W' := by
 intro k g n hk e
 by_cases c : k = i
 . subst c
   rw [upv_eq] at e
   simp only [Value.slice.injEq, Option.some.injEq, Addr.mk.injEq] at e
   obtain ⟨⟨rfl, _⟩, _⟩ := e
   refine ⟨by omega, fun j h' m' hj hne ej => ?_⟩
   rw [zAS vs _ hne] at ej
   have := (h j h' m' hj ej).1
   omega
 . rw [zAS vs _ c] at e
   obtain ⟨h1, h2⟩ := h k g n hk e
   refine ⟨by omega, fun j h' m' hj hne ej => ?_⟩
   by_cases c2 : j = i
   . subst c2
     rw [upv_eq] at ej
     simp only [Value.slice.injEq, Option.some.injEq, Addr.mk.injEq] at ej
     obtain ⟨⟨rfl, _⟩, _⟩ := ej
     omega
   . rw [zAS vs _ c2] at ej
     exact h2 j h' m' hj hne ej
def RW (W : World) (g n : Nat) : Prop := W.rowIs g 3 n (fun _ => .int .i64 0)
theorem RW.fr {W W' : World} {g n b : Nat} {cs : List Value} (h : RW W g n) (hb : W.heap[b]? = some (.cells cs.toArray 69 (0, 0))) (hf : Fr (fun x => x = b) W W') : RW W' g n := by
  obtain ⟨c, h1, h2, h3⟩ := h
  refine ⟨c, (hf.block _ (zAE h1) (fun e => ?_)).trans h1, h2, h3⟩
  subst e
  rw [h1] at hb
  simp only [Option.some.injEq, Obj.cells.injEq] at hb
  exact absurd hb.2.1 (by decide)
def T8 (d : Int) (bR NS : Nat) (a1 : Option Addr) (a2 a3 : Nat) (a4 : Option Addr) (a5 a6 : Nat) (a7 : Option Addr) (a8 a9 : Nat) (i : Nat) (vs : Nat → Value) (W : World) : Prop :=
  match i with
  | 0 => vs 0 = .int .i64 d
  | 1 => vs 1 = .pointer (some ⟨bR, 1, none⟩)
  | 2 => vs 2 = .slice a1 a2 a3
  | 3 => vs 3 = .int .i64 (a2 : Nat)
  | 4 => ∃ g, vs 4 = .slice (some ⟨g, 0, none⟩) a2 a2 ∧ NS ≤ g ∧ RW W g a2
  | 5 => vs 5 = .pointer (some ⟨bR, 2, none⟩)
  | 6 => vs 6 = .slice a4 a5 a6
  | 7 => vs 7 = .int .i64 (a5 : Nat)
  | 8 => ∃ g, vs 8 = .slice (some ⟨g, 0, none⟩) a5 a5 ∧ NS ≤ g ∧ RW W g a5
  | 9 => vs 9 = .pointer (some ⟨bR, 3, none⟩)
  | 10 => vs 10 = .slice a7 a8 a9
  | 11 => vs 11 = .int .i64 (a8 : Nat)
  | 12 => ∃ g, vs 12 = .slice (some ⟨g, 0, none⟩) a8 a8 ∧ NS ≤ g ∧ RW W g a8
  | 13 => ∃ g1 g2 g3, vs 13 = .agg #[.int .i64 d, .slice (some ⟨g1, 0, none⟩) a2 a2, .slice (some ⟨g2, 0, none⟩) a5 a5, .slice (some ⟨g3, 0, none⟩) a8 a8] ∧ RW W g1 a2 ∧ RW W g2 a5 ∧ RW W g3 a8 ∧ g1 ≠ g2 ∧ g1 ≠ g3 ∧ g2 ≠ g3 ∧ NS ≤ g1 ∧ NS ≤ g2 ∧ NS ≤ g3
  | 14 => ∃ (b : Nat) (cs : List Value), vs 14 = .pointer (some ⟨b, 0, none⟩) ∧ NS ≤ b ∧ cs.length = 4 ∧ W.heap[b]? = some (.cells cs.toArray 69 (0, 0))
  | 15 => ∃ b g1 g2 g3, vs 14 = .pointer (some ⟨b, 0, none⟩) ∧ NS ≤ b ∧ W.heap[b]? = some (.cells #[.int .i64 d, .slice (some ⟨g1, 0, none⟩) a2 a2, .slice (some ⟨g2, 0, none⟩) a5 a5, .slice (some ⟨g3, 0, none⟩) a8 a8] 69 (0, 0)) ∧ RW W g1 a2 ∧ RW W g2 a5 ∧ RW W g3 a8 ∧ g1 ≠ g2 ∧ g1 ≠ g3 ∧ g2 ≠ g3 ∧ NS ≤ g1 ∧ NS ≤ g2 ∧ NS ≤ g3
  | _ => True
theorem T8.pres {d : Int} {bR NS : Nat} {a1 : Option Addr} {a2 a3 : Nat} {a4 : Option Addr} {a5 a6 : Nat} {a7 : Option Addr} {a8 a9 : Nat} {i j : Nat} {vs : Nat → Value} {W W' : World} {v : Value} (hu : vs i = undef) (hj : j ≠ i) (hb : Below W.heap.size W W') (h : T8 d bR NS a1 a2 a3 a4 a5 a6 a7 a8 a9 j vs W) : T8 d bR NS a1 a2 a3 a4 a5 a6 a7 a8 a9 j (upv vs i v) W' := by
 have R : ∀ g n, RW W g n → RW W' g n := fun g n h => zAJ h hb
 rcases j with _ | _ | _ | _ | _ | _ | _ | _ | _ | _ | _ | _ | _ | _ | _ | _ | j
 . exact (zAS vs v hj).trans h
 . exact (zAS vs v hj).trans h
 . exact (zAS vs v hj).trans h
 . exact (zAS vs v hj).trans h
 . obtain ⟨g, h1, h2, h3⟩ := h
   exact ⟨g, by rw [zAS vs v hj]; exact h1, h2, R _ _ h3⟩
 . exact (zAS vs v hj).trans h
 . exact (zAS vs v hj).trans h
 . exact (zAS vs v hj).trans h
 . obtain ⟨g, h1, h2, h3⟩ := h
   exact ⟨g, by rw [zAS vs v hj]; exact h1, h2, R _ _ h3⟩
 . exact (zAS vs v hj).trans h
 . exact (zAS vs v hj).trans h
 . exact (zAS vs v hj).trans h
 . obtain ⟨g, h1, h2, h3⟩ := h
   exact ⟨g, by rw [zAS vs v hj]; exact h1, h2, R _ _ h3⟩
 . obtain ⟨g1, g2, g3, h1, r1, r2, r3, q⟩ := h
   exact ⟨g1, g2, g3, by rw [zAS vs v hj]; exact h1, R _ _ r1, R _ _ r2, R _ _ r3, q⟩
 . obtain ⟨b, cs, h1, h2, h3, h4⟩ := h
   exact ⟨b, cs, by rw [zAS vs v hj]; exact h1, h2, h3, (hb.block _ (zAE h4)).trans h4⟩
 . obtain ⟨b, g1, g2, g3, h1, h2, h3, r1, r2, r3, q⟩ := h
   have h14 : (14 : Nat) ≠ i := fun c => by rw [← c, h1] at hu; cases hu
   exact ⟨b, g1, g2, g3, by rw [zAS vs v h14]; exact h1, h2, (hb.block _ (zAE h3)).trans h3, R _ _ r1, R _ _ r2, R _ _ r3, q⟩
 . trivial
theorem T8.store {d : Int} {bR NS : Nat} {a1 : Option Addr} {a2 a3 : Nat} {a4 : Option Addr} {a5 a6 : Nat} {a7 : Option Addr} {a8 a9 : Nat} {j b : Nat} {vs : Nat → Value} {W W' : World} {v : Value} {cs cs' : List Value} (hv : vs 14 = .pointer (some ⟨b, 0, none⟩)) (hj : j ≠ 15) (hb : W.heap[b]? = some (.cells cs.toArray 69 (0, 0))) (hb' : W'.heap[b]? = some (.cells cs'.toArray 69 (0, 0))) (hl : cs'.length = 4) (hf : Fr (fun x => x = b) W W') (h : T8 d bR NS a1 a2 a3 a4 a5 a6 a7 a8 a9 j vs W) : T8 d bR NS a1 a2 a3 a4 a5 a6 a7 a8 a9 j (upv vs 15 v) W' := by
 have R : ∀ g n, RW W g n → RW W' g n := fun g n h => h.fr hb hf
 rcases j with _ | _ | _ | _ | _ | _ | _ | _ | _ | _ | _ | _ | _ | _ | _ | _ | j
 . exact (zAS vs v hj).trans h
 . exact (zAS vs v hj).trans h
 . exact (zAS vs v hj).trans h
 . exact (zAS vs v hj).trans h
 . obtain ⟨g, h1, h2, h3⟩ := h
   exact ⟨g, by rw [zAS vs v hj]; exact h1, h2, R _ _ h3⟩
 . exact (zAS vs v hj).trans h
 . exact (zAS vs v hj).trans h
 . exact (zAS vs v hj).trans h
 . obtain ⟨g, h1, h2, h3⟩ := h
   exact ⟨g, by rw [zAS vs v hj]; exact h1, h2, R _ _ h3⟩
 . exact (zAS vs v hj).trans h
 . exact (zAS vs v hj).trans h
 . exact (zAS vs v hj).trans h
 . obtain ⟨g, h1, h2, h3⟩ := h
   exact ⟨g, by rw [zAS vs v hj]; exact h1, h2, R _ _ h3⟩
 . obtain ⟨g1, g2, g3, h1, r1, r2, r3, q⟩ := h
   exact ⟨g1, g2, g3, by rw [zAS vs v hj]; exact h1, R _ _ r1, R _ _ r2, R _ _ r3, q⟩
 . obtain ⟨b2, cs2, h1, h2, h3, h4⟩ := h
   rw [hv] at h1
   simp only [Value.pointer.injEq, Option.some.injEq, Addr.mk.injEq] at h1
   obtain ⟨rfl, _⟩ := h1
   exact ⟨b, cs', by rw [zAS vs v hj]; exact hv, h2, hl, hb'⟩
 . exact absurd rfl hj
 . trivial
theorem ovr_at (cs : List Value) (k : Nat) (v : Value) (hk : k < cs.length) : ovr cs k [v] = cs.set k v := by
  rw [List.set_eq_take_append_cons_drop, if_pos hk]
  unfold ovr
  simp
theorem zHH {o : Oper} {a : Act} {w : World} {K : Act → World → Prop} {Q : Exit → Act → World → Prop} (x y : Operand) (ho : o.op = .store 3 x y) (g n k : Nat) (f : Nat → Value) (hr : w.rowIs g 3 n f) (hk : k < n) (hx : a.eval x = .pointer (some ⟨g, k, none⟩)) (z : Int) (hy : a.eval y = .int .i64 z)
   (h : ∀ w', w'.rowIs g 3 n (fun i => if i = k then .int .i64 z else f i) → Fr (fun i => i = g) w w' → K (a.put o.dst undef) w') : Oper.wp Tryz.prog o a w K Q := by
 obtain ⟨c, h1, h2, h3⟩ := hr
 refine op_st 3 x y ho g k c.toList 3 (.int .i64 z) [.int .i64 z] hx hy rfl (by simpa using h1) (by simp; omega) (by kernel_rfl) rfl ?_
 intro w' hb hf
 rw [ovr_at _ _ _ (by simp; omega)] at hb
 refine h w' ⟨_, hb, by simp [h2], fun i hi => ?_⟩ hf
 rw [List.getElem?_toArray, List.getElem?_set]
 show _ = some (if i = k then _ else _)
 by_cases c2 : k = i
 . subst c2
   rw [if_pos rfl, if_pos (by simp; omega), if_pos rfl]
 . rw [if_neg c2, if_neg (fun e : i = k => c2 e.symm), Array.getElem?_toList]
   exact h3 i hi
theorem op_mk {o : Oper} {a : Act} {w : World} {K : Act → World → Prop} {Q : Exit → Act → World → Prop} (x : Operand) (ho : o.op = .makeSlice 67 x x) (n : Nat) (hn : n ≤ 1000) (hx : a.eval x = .int .i64 (n : Nat))
  (h : K (a.put o.dst (.slice (some ⟨w.heap.size, 0, none⟩) n n)) (w.alloc (.cells (madeCells #[.int .i64 0] n) 3))) : Oper.wp Tryz.prog o a w K Q := by
 have hmk := run_make_row' (P := Tryz.prog) 67 3 (.int .i64 0) 8 Tryz.underlying67 B8.infoI rfl .i64 .i64 n (by omega) (by omega) w
 unfold Oper.wp execOp
 simp only [ho, hx, Sem.run_bind, hmk, Result.andThen_ok, Sem.run_pure]
 exact h
theorem ovrAll (cs vs : List Value) (h : cs.length = vs.length) : ovr cs 0 vs = vs := by unfold ovr; simp [h]
theorem zD8 {o : Oper} {a : Act} {w : World} {K : Act → World → Prop} {Q : Exit → Act → World → Prop} (s : Tmp) (t e : TypeId) (ho : o.op = .call { callee := .builtin .len, args := #[.tmp s], argTypes := #[t] }) (p : Option Addr) (n c : Nat) (hx : a.eval (.tmp s) = .slice p n c) (ht : Tryz.prog.underlying t = some (.slice e))
  (hk : K (a.put o.dst (.int .i64 (n : Nat))) w) : Oper.wp Tryz.prog o a w K Q := by
 refine zAM (.int .i64 (n : Nat)) ?_ hk
 have h9 : a.tmps[s]?.getD undef = .slice p n c := by simpa [Act.eval] using hx
 unfold execOp
 simp only [ho]
 go_simp
theorem zBC {w w' : World} {g n b : Nat} {t : TypeId} {f : Nat → Value} (h : w.rowIs g t n f) (hf : Fr (fun x => x = b) w w') (hn : g ≠ b) : w'.rowIs g t n f := by
  obtain ⟨c, h1, h2, h3⟩ := h
  exact ⟨c, (hf.block _ (zAE h1) hn).trans h1, h2, h3⟩
theorem zIQ {w : World} {g n b : Nat} {f : Nat → Value} {cs : Array Value} (h : w.rowIs g 3 n f) (hb : w.heap[b]? = some (.cells cs 69 (0, 0))) : b ≠ g := by
  obtain ⟨c, h1, _⟩ := h
  intro e
  subst e
  rw [h1] at hb
  simp only [Option.some.injEq, Obj.cells.injEq] at hb
  exact absurd hb.2.1 (by decide)
theorem zEY {w : World} {g n : Nat} {z : Nat → Int} {f : Nat → Value} (h : w.rowIs g 3 n f) (hn : n ≤ 1000) (hf : ∀ i, i < n → f i = .int .i64 (z i)) : RwI w (.slice (some ⟨g, 0, none⟩) n n) n z :=
  ⟨⟨_, n, rfl, Nat.le_refl _, by unfold maxLen; omega, fun _ => ⟨g, 0, rfl, fun k hk => by rw [Nat.zero_add, h.cell hk, hf k hk]⟩⟩, fun g' off cap e => by
    simp only [Value.slice.injEq, Option.some.injEq, Addr.mk.injEq] at e
    obtain ⟨⟨rfl, _⟩, _⟩ := e
    obtain ⟨c, h1, _⟩ := h
    exact ⟨c, h1⟩⟩
theorem op_max0 {o : Oper} {a : Act} {w : World} {K : Act → World → Prop} {Q : Exit → Act → World → Prop} (s : Tmp) (ho : o.op = .call { callee := .builtin .max, args := #[.tmp s, .const (.int .i64 0)], argTypes := #[3, 3] }) (y : Int) (hx : a.eval (.tmp s) = .int .i64 y) (z : Int) (hz : z = max y 0)
   (hk : K (a.put o.dst (.int .i64 z)) w) : Oper.wp Tryz.prog o a w K Q := by
 refine zAM (.int .i64 z) ?_ hk
 have h9 : a.tmps[s]?.getD undef = .int .i64 y := by simpa [Act.eval] using hx
 subst hz
 unfold execOp
 simp only [ho]
 by_cases c : y < 0
 . have e1 : max y 0 = 0 := by omega
   rw [e1]
   go_simp
 . have c2 : 0 ≤ y := by omega
   have e1 : max y 0 = y := by omega
   rw [e1]
   go_simp
theorem zJQ : ∀ args w, (callFunc 50 args).run Tryz.prog w = .ok (.enter 50 args) w := enters_of Tryz.func50 (by kernel_rfl) rfl
theorem zGD : ∀ args w, (callFunc 49 args).run Tryz.prog w = .ok (.enter 49 args) w := enters_of Tryz.func49 (by kernel_rfl) rfl
theorem zC8 (ws ts : List Pt) (ms : List Mn) (ks : List Lk) (hw : Wok ws) (hl0 : Lok ws ks) (hlt : ∀ p, p ∈ ts → Lok (ws ++ [p]) ks) (hmz : ∀ m, m ∈ ms → 0 ≤ m.p.n ∧ m.p.n ≤ 1073741824) (h1 : 1 ≤ ws.length) (h3 : ws.length ≤ 3) (ht2 : ts.length ≤ 2) (hm2 : ms.length ≤ 2) (rn rt : ByteArray) (a1 : Option Addr) (a2 a3 : Nat) (a4 : Option Addr) (a5 a6 : Nat) (a7 : Option Addr) (a8 a9 : Nat) (b1_ : Option Addr) (b2_ b3_ : Nat) (b4_ : Option Addr) (b5_ b6_ : Nat) (w : World)
  (hW : Rd w (.row 48 18 (ws.map encP)) (.slice a1 a2 a3)) (hT : Rd w (.row 48 18 (ts.map encP)) (.slice a4 a5 a6)) (hM : Rd w (.row 78 20 (ms.map encM)) (.slice a7 a8 a9)) (hK : Rd w (.row 66 3 (ks.map encK)) (.slice b1_ b2_ b3_)) (ht : B8.Tab w) :
  Calls Tryz.prog 28 #[.agg #[.string rn, .slice a1 a2 a3, .slice a4 a5 a6, .slice a7 a8 a9, .slice b1_ b2_ b3_, .string rt, .slice b4_ b5_ b6_]] w fun e w' => zHR w.heap.size w' e ws ts ms ks ∧ Below w.heap.size w w' := by
 obtain ⟨wp_, wc_, e1, hmx1, _⟩ := zAK lenP hW
 obtain ⟨tp_, tc_, e2, hmx2, _⟩ := zAK lenP hT
 obtain ⟨mp_, mc_, e3, hmx3, hatm⟩ := zAK lenM hM
 obtain ⟨c, hc⟩ : ∃ x, ws.length = x := ⟨_, rfl⟩
 obtain ⟨nt, hnt⟩ : ∃ x, ts.length = x := ⟨_, rfl⟩
 obtain ⟨nm, hnm⟩ : ∃ x, ms.length = x := ⟨_, rfl⟩
 rw [hc] at e1
 rw [hnt] at e2
 rw [hnm] at e3
 simp only [Value.slice.injEq] at e1 e2 e3
 obtain ⟨rfl, rfl, rfl⟩ := e1
 obtain ⟨rfl, rfl, rfl⟩ := e2
 obtain ⟨rfl, rfl, rfl⟩ := e3
 have hw0 : Below w.heap.size w ((w.alloc (.cells #[.string rn, .slice a1 a2 a3, .slice a4 a5 a6, .slice a7 a8 a9, .slice b1_ b2_ b3_, .string rt, .slice b4_ b5_ b6_] 56)).alloc (.cells #[.int .i64 0, .slice none 0 0, .slice none 0 0, .slice none 0 0] 69)) := ((Below.refl _ _).alloc (Nat.le_refl _) _).alloc (by simp) _
 have hr0 : ((w.alloc (.cells #[.string rn, .slice a1 a2 a3, .slice a4 a5 a6, .slice a7 a8 a9, .slice b1_ b2_ b3_, .string rt, .slice b4_ b5_ b6_] 56)).alloc (.cells #[.int .i64 0, .slice none 0 0, .slice none 0 0, .slice none 0 0] 69)).heap[w.heap.size]? = some (.cells #[.string rn, .slice a1 a2 a3, .slice a4 a5 a6, .slice a7 a8 a9, .slice b1_ b2_ b3_, .string rt, .slice b4_ b5_ b6_] 56 (0, 0)) := (heap_alloc_old _ _ (by simp)).trans (heap_alloc_new _ _)
 have hp0 : ((w.alloc (.cells #[.string rn, .slice a1 a2 a3, .slice a4 a5 a6, .slice a7 a8 a9, .slice b1_ b2_ b3_, .string rt, .slice b4_ b5_ b6_] 56)).alloc (.cells #[.int .i64 0, .slice none 0 0, .slice none 0 0, .slice none 0 0] 69)).heap[w.heap.size + 1]? = some (.cells #[.int .i64 0, .slice none 0 0, .slice none 0 0, .slice none 0 0] 69 (0, 0)) := by
  have h9 := heap_alloc_new (w.alloc (.cells #[.string rn, .slice a1 a2 a3, .slice a4 a5 a6, .slice a7 a8 a9, .slice b1_ b2_ b3_, .string rt, .slice b4_ b5_ b6_] 56)) (.cells #[.int .i64 0, .slice none 0 0, .slice none 0 0, .slice none 0 0] 69)
  simpa using h9
 obtain ⟨w2, hw2⟩ : ∃ x, (w.alloc (.cells #[.string rn, .slice a1 a2 a3, .slice a4 a5 a6, .slice a7 a8 a9, .slice b1_ b2_ b3_, .string rt, .slice b4_ b5_ b6_] 56)).alloc (.cells #[.int .i64 0, .slice none 0 0, .slice none 0 0, .slice none 0 0] 69) = x := ⟨_, rfl⟩
 rw [hw2] at hw0 hr0 hp0
 have HB2 := hid hw0
 have HR2 := hid hr0
 have HP2 := hid hp0
 have HW := hid hW
 have HT_ := hid hT
 have HM := hid hM
 have HK := hid hK
 have HTB := hid ht
 have HC := hid hc
 have HNT := hid hnt
 have HNM := hid hnm
 have HL : Hid (1 ≤ a2 ∧ a2 ≤ 3 ∧ a5 ≤ 2 ∧ a8 ≤ 2) := by show _ ∧ _; omega
 have HATM := hid hatm
 have HMZ := hid hmz
 have HNB : Hid (∀ i R, i < a5 → nmx ws ks ts i = some R → Bnd (2 * (a2 + 1)) 8796093022208 R) := fun i R hi e => by
  unfold nmx at e
  have hlen : (ws ++ [wAt ts i]).length = a2 + 1 := by rw [List.length_append, hc]; rfl
  have hi' : i < ts.length := by omega
  have h9 := zEU (by rw [hlen]; omega) hw (hlt _ (by unfold wAt; rw [List.getD_eq_getElem?_getD, List.getElem?_eq_getElem hi']; exact List.getElem_mem hi')) e
  rw [hlen] at h9
  exact h9.1
 have HDI := hid (fun d => dly_in (k := a5) (d := d) HNB.out (Nat.le_refl _))
 have HBND := hid (zDP ws [] ks hw (by rw [List.append_nil]; exact hl0) h1 h3 (by decide) rn rt (.slice a1 a2 a3) (.slice a4 a5 a6) (.slice a7 a8 a9) (.slice b1_ b2_ b3_) (.slice b4_ b5_ b6_) (.slice none 0 0) w2 ⟨_, _, _, _, _, _, _, _, _, _, _, _, _, _, _, rfl, rfl, rfl, rfl, rfl⟩ (hW.later hw0) (hK.later hw0) (Rd.nil _ _ none 0 (Nat.zero_le _)) (ht.later hw0))
 rw [List.append_nil, hc] at HBND
 have HNOT := hid (fun W (hW9 : Below w2.heap.size w2 W) => zCK ws ts ks hw hlt h1 h3 ht2 (2 * (a2 + 1)) (by rw [hc]) rn rt a1 a2 a3 a4 a5 a6 a7 a8 a9 b1_ b2_ b3_ b4_ b5_ b6_ W (hW.later (zAA hw0 hW9 hw0.size)) (hT.later (zAA hw0 hW9 hw0.size)) (hK.later (zAA hw0 hW9 hw0.size)) (ht.later (zAA hw0 hW9 hw0.size)))
 rw [hnt] at HNOT
 have HRX := hid (fun R => zEU (R := R) (by omega) hw hl0)
 unfold zHR
 rw [hc, hnt, hnm]
 obtain ⟨rm, hrm⟩ : ∃ x, rmx ws ws ks = x := ⟨_, rfl⟩
 rw [hrm] at HBND HRX ⊢
 clear hW hT hM hK ht hw hl0 hlt hmz h1 h3 ht2 hm2 hc hnt hnm hatm hw0 hr0 hp0 hmx1 hmx2 hmx3 hrm
 cases rm with
 | none =>
  clear HNOT HRX HDI HNB
  go_enter Tryz.func28, Tryz.ntmps28
  go_wp2_with (first
   | ((with_reducible show wpList _ _ _ (Oper.mk (some 15) _ _ _ _ _ :: _) _ _); refine wpList_load_mid (by rfl) 56 _ (by rfl) w.heap.size 0 (by rfl) [.string rn, .slice a1 a2 a3, .slice a4 a5 a6, .slice a7 a8 a9, .slice b1_ b2_ b3_, .string rt, .slice b4_ b5_ b6_] _ (zAL HR2.out) Tryz.underlying56 rfl (by kernel_rfl) ?_)
   | (go_at_call 46; refine HBND.out.mono ?_; rintro e w3 ⟨hres, hb3⟩; have hres2 : e = .returned (.tuple #[.slice none 0 0, .int .i64 16]) := hres; subst hres2; have HB3 := hid (zAA HB2.out hb3 HB2.out.size); have HP3 := hid ((hb3.block _ (zAE HP2.out)).trans HP2.out); clear hres hb3)
   | ((with_reducible show wpList _ _ _ (Oper.mk _ (.store 69 _ _) _ _ _ _ :: _) _ _); refine zBL 69 (w.heap.size + 1) 0 [.int .i64 0, .slice none 0 0, .slice none 0 0, .slice none 0 0] 69 [.int .i64 0, .slice none 0 0, .slice none 0 0, .slice none 0 0] HP3.out ?_ (hl := Nat.le_refl 4); intro w4 hq1 hq2; have HP4 := hid hq1; have HB4 : Hid (Below w.heap.size w w4) := zAU HB3.out hq2 (by omega) (Nat.le_refl _); clear hq1 hq2))
  exact zB3 (w.heap.size + 1) [.int .i64 0, .slice none 0 0, .slice none 0 0, .slice none 0 0] 69 _ HP4.out rfl rfl (by rfl) Tryz.underlying69 rfl (by kernel_rfl) ⟨rfl, HB4.out⟩
 | some M =>
  obtain ⟨dl, hdl⟩ : ∃ x, dly a2 (nmx ws ks ts) a5 = x := ⟨_, rfl⟩
  have HDE := hid hdl
  rw [hdl] at HDI
  simp only [hdl]
  clear hdl
  cases dl with
  | none =>
   clear HRX HDI HNB
   go_enter Tryz.func28, Tryz.ntmps28
   go_wp2_with (first
    | ((with_reducible show wpList _ _ _ (Oper.mk (some 15) _ _ _ _ _ :: _) _ _); refine wpList_load_mid (by rfl) 56 _ (by rfl) w.heap.size 0 (by rfl) [.string rn, .slice a1 a2 a3, .slice a4 a5 a6, .slice a7 a8 a9, .slice b1_ b2_ b3_, .string rt, .slice b4_ b5_ b6_] _ (zAL HR2.out) Tryz.underlying56 rfl (by kernel_rfl) ?_)
    | (go_at_call 46; refine HBND.out.mono ?_; rintro e w3 ⟨⟨V, rfl, hV⟩, hb3⟩; have hnt := Nt.of_new (by have := HL.out; omega) hV; obtain ⟨vc, vb, vG, vC, rfl, hv1, hv2, hv3⟩ := hnt; have HV3 := hid (And.intro hv1 (And.intro hv2 hv3)); have HB23 := hid hb3; have HB3 := hid (zAA HB2.out hb3 HB2.out.size); have HR3 := hid ((hb3.block _ (zAE HR2.out)).trans HR2.out); have HP3 := hid ((hb3.block _ (zAE HP2.out)).trans HP2.out); clear hV hb3 hv1 hv2 hv3)
    | ((with_reducible show wpList _ _ _ (Oper.mk (some 23) _ _ _ _ _ :: _) _ _); refine wpList_load_mid (by rfl) 56 _ (by rfl) w.heap.size 0 (by rfl) [.string rn, .slice a1 a2 a3, .slice a4 a5 a6, .slice a7 a8 a9, .slice b1_ b2_ b3_, .string rt, .slice b4_ b5_ b6_] _ (zAL HR3.out) Tryz.underlying56 rfl (by kernel_rfl) ?_)
    | (go_at_call 47; refine (HNOT.out _ HB23.out).mono ?_; rintro e w4 ⟨⟨gN, fN, rfl, hgN, hrN, hfN⟩, hb4⟩; have HB34 := hid hb4; have HB4 := hid (zAA HB3.out hb4 HB3.out.size); have HR4 := hid ((hb4.block _ (zAE HR3.out)).trans HR3.out); have HP4 := hid ((hb4.block _ (zAE HP3.out)).trans HP3.out); have q4 : w4.cell? ⟨w.heap.size, 1, none⟩ = some (.slice a1 a2 a3) := (by rw [zAB HR4.out]; rfl); have HDL := hid (zDB (nmx ws ks ts) gN a5 a2 (2 * (a2 + 1)) w3.heap.size fN w4 hrN hfN HL.out.2.2.1 rfl HL.out.2.1); rw [HDE.out] at HDL; have HNR := hid (And.intro hgN (And.intro hrN hfN)); clear hb4 hgN hrN hfN)
    | (go_at_call 48; refine HDL.out.mono ?_; rintro e w5 ⟨hres, hb5⟩; have hres2 : e = .returned (.tuple #[.int .i64 0, .int .i64 15]) := hres; subst hres2; clear hres; have HB5 := hid (zAA HB4.out hb5 HB4.out.size); have HP5 := hid ((hb5.block _ (zAE HP4.out)).trans HP4.out); clear hb5)
    | ((with_reducible show wpList _ _ _ (Oper.mk _ (.store 69 _ _) _ _ _ _ :: _) _ _); refine zBL 69 (w.heap.size + 1) 0 [.int .i64 0, .slice none 0 0, .slice none 0 0, .slice none 0 0] 69 [.int .i64 0, .slice none 0 0, .slice none 0 0, .slice none 0 0] HP5.out ?_ (hl := Nat.le_refl 4); intro w6 hq1 hq2; have HP6 := hid hq1; have HB6 : Hid (Below w.heap.size w w6) := zAU HB5.out hq2 (by omega) (Nat.le_refl _); clear hq1 hq2))
   exact zB3 (w.heap.size + 1) [.int .i64 0, .slice none 0 0, .slice none 0 0, .slice none 0 0] 69 _ HP6.out rfl rfl (by rfl) Tryz.underlying69 rfl (by kernel_rfl) ⟨rfl, HB6.out⟩
  | some d =>
   obtain ⟨hd0, hd1⟩ := HDI.out d rfl
   have HD := hid (And.intro hd0 hd1)
   clear HDI hd0 hd1
   go_enter Tryz.func28, Tryz.ntmps28
   go_upto_region 8 with (first
    | ((with_reducible show wpList _ _ _ (Oper.mk (some 15) _ _ _ _ _ :: _) _ _); refine wpList_load_mid (by rfl) 56 _ (by rfl) w.heap.size 0 (by rfl) [.string rn, .slice a1 a2 a3, .slice a4 a5 a6, .slice a7 a8 a9, .slice b1_ b2_ b3_, .string rt, .slice b4_ b5_ b6_] _ (zAL HR2.out) Tryz.underlying56 rfl (by kernel_rfl) ?_)
    | (go_at_call 46; refine HBND.out.mono ?_; rintro e w3 ⟨⟨V, rfl, hV⟩, hb3⟩; have hnt := Nt.of_new (by have := HL.out; omega) hV; obtain ⟨vc, vb, vG, vC, rfl, hv1, hv2, hv3⟩ := hnt; have HV3 := hid (And.intro hv1 (And.intro hv2 hv3)); have HB23 := hid hb3; have HB3 := hid (zAA HB2.out hb3 HB2.out.size); have HR3 := hid ((hb3.block _ (zAE HR2.out)).trans HR2.out); have HP3 := hid ((hb3.block _ (zAE HP2.out)).trans HP2.out); clear hV hb3 hv1 hv2 hv3)
    | ((with_reducible show wpList _ _ _ (Oper.mk (some 23) _ _ _ _ _ :: _) _ _); refine wpList_load_mid (by rfl) 56 _ (by rfl) w.heap.size 0 (by rfl) [.string rn, .slice a1 a2 a3, .slice a4 a5 a6, .slice a7 a8 a9, .slice b1_ b2_ b3_, .string rt, .slice b4_ b5_ b6_] _ (zAL HR3.out) Tryz.underlying56 rfl (by kernel_rfl) ?_)
    | (go_at_call 47; refine (HNOT.out _ HB23.out).mono ?_; rintro e w4 ⟨⟨gN, fN, rfl, hgN, hrN, hfN⟩, hb4⟩; have HB34 := hid hb4; have HB4 := hid (zAA HB3.out hb4 HB3.out.size); have HR4 := hid ((hb4.block _ (zAE HR3.out)).trans HR3.out); have HP4 := hid ((hb4.block _ (zAE HP3.out)).trans HP3.out); have q4 : w4.cell? ⟨w.heap.size, 1, none⟩ = some (.slice a1 a2 a3) := (by rw [zAB HR4.out]; rfl); have HDL := hid (zDB (nmx ws ks ts) gN a5 a2 (2 * (a2 + 1)) w3.heap.size fN w4 hrN hfN HL.out.2.2.1 rfl HL.out.2.1); rw [HDE.out] at HDL; have HNR := hid (And.intro hgN (And.intro hrN hfN)); clear hb4 hgN hrN hfN)
    | (go_at_call 48; refine HDL.out.mono ?_; rintro e w5 ⟨hres, hb5⟩; have hres2 : e = .returned (.tuple #[.int .i64 d, .int .i64 0]) := hres; subst hres2; clear hres; have HB45 := hid hb5; have HB5 := hid (zAA HB4.out hb5 HB4.out.size); have HR5 := hid ((hb5.block _ (zAE HR4.out)).trans HR4.out); have HP5 := hid ((hb5.block _ (zAE HP4.out)).trans HP4.out); clear hb5))
   refine zF2 (by kernel_rfl) (T8 d w.heap.size w5.heap.size a1 a2 a3 a4 a5 a6 a7 a8 a9) (fun vs W => Below w5.heap.size w5 W ∧ Dsq vs W) 114 rfl (by kernel_rfl) ⟨Below.drew (Below.refl _ _), fun i g n _ e => by cases e⟩ (zAD.cons ?o0 (zAD.cons ?o1 (zAD.cons ?o2 (zAD.cons ?o3 (zAD.cons ?o4 (zAD.cons ?o5 (zAD.cons ?o6 (zAD.cons ?o7 (zAD.cons ?o8 (zAD.cons ?o9 (zAD.cons ?o10 (zAD.cons ?o11 (zAD.cons ?o12 (zAD.cons ?o13 (zAD.cons ?o14 (zAD.cons ?o15 zAD.nil)))))))))))))))) ?hend
   case o0 =>
    intro a W vs hu hB hd ho
    have e7 : a.eval (.tmp 7) = .int .i64 d := ho 7 (by kernel_rfl)
    exact zA6 _ (by simp) _ e7 ⟨_, rfl, rfl, ⟨hB.1, hB.2.other (Nat.le_refl _) (by unfold pl3; omega)⟩, fun j hj _ ht => T8.pres hu hj (Below.refl _ _) ht⟩
   case o1 =>
    intro a W vs hu hB hd ho
    have e1 : a.eval (.tmp 1) = .pointer (some ⟨w.heap.size, 0, none⟩) := ho 1 (by kernel_rfl)
    exact zAM (.pointer (some ⟨w.heap.size, 1, none⟩)) (by unfold execOp; simp only [ev_c, e1]; go_simp) ⟨_, rfl, rfl, ⟨hB.1, hB.2.other (Nat.le_refl _) (by unfold pl3; omega)⟩, fun j hj _ ht => T8.pres hu hj (Below.refl _ _) ht⟩
   case o2 =>
    intro a W vs hu hB hd ho
    have e38 : a.eval (.tmp 38) = .pointer (some ⟨w.heap.size, 1, none⟩) := by
     have h9 := hd 1 38 (by kernel_rfl)
     rw [h9.1]
     exact h9.2
    have c9 : W.cell? ⟨w.heap.size, 1, none⟩ = some (.slice a1 a2 a3) := by
     rw [zAB ((hB.1.block _ (zAE HR5.out)).trans HR5.out)]
     rfl
    exact zAM (.slice a1 a2 a3) (by unfold execOp; simp only [ev_c, e38]; go_simp) ⟨_, rfl, rfl, ⟨hB.1, hB.2.other (Nat.le_refl _) (by unfold pl3; omega)⟩, fun j hj _ ht => T8.pres hu hj (Below.refl _ _) ht⟩
   case o3 =>
    intro a W vs hu hB hd ho
    have e39 : a.eval (.tmp 39) = .slice a1 a2 a3 := by
     have h9 := hd 2 39 (by kernel_rfl)
     rw [h9.1]
     exact h9.2
    exact zD8 39 _ _ rfl _ a2 _ e39 Tryz.underlying49 ⟨_, rfl, rfl, ⟨hB.1, hB.2.other (Nat.le_refl _) (by unfold pl3; omega)⟩, fun j hj _ ht => T8.pres hu hj (Below.refl _ _) ht⟩
   case o4 =>
    intro a W vs hu hB hd ho
    have e40 : a.eval (.tmp 40) = .int .i64 (a2 : Nat) := by
     have h9 := hd 3 40 (by kernel_rfl)
     rw [h9.1]
     exact h9.2
    have hal := zA2 W (.cells (madeCells #[.int .i64 0] a2) 3)
    exact op_mk _ rfl a2 (by have := HL.out; omega) e40 ⟨_, rfl, ⟨W.heap.size, rfl, hB.1.size, World.rowIs_made W (.int .i64 0) a2 3⟩, ⟨zAA hB.1 hal hB.1.size, hB.2.new (by simp)⟩, fun j hj _ ht => T8.pres hu hj hal ht⟩
   case o5 =>
    intro a W vs hu hB hd ho
    have e1 : a.eval (.tmp 1) = .pointer (some ⟨w.heap.size, 0, none⟩) := ho 1 (by kernel_rfl)
    exact zAM (.pointer (some ⟨w.heap.size, 2, none⟩)) (by unfold execOp; simp only [ev_c, e1]; go_simp) ⟨_, rfl, rfl, ⟨hB.1, hB.2.other (Nat.le_refl _) (by unfold pl3; omega)⟩, fun j hj _ ht => T8.pres hu hj (Below.refl _ _) ht⟩
   case o6 =>
    intro a W vs hu hB hd ho
    have e42 : a.eval (.tmp 42) = .pointer (some ⟨w.heap.size, 2, none⟩) := by
     have h9 := hd 5 42 (by kernel_rfl)
     rw [h9.1]
     exact h9.2
    have c9 : W.cell? ⟨w.heap.size, 2, none⟩ = some (.slice a4 a5 a6) := by
     rw [zAB ((hB.1.block _ (zAE HR5.out)).trans HR5.out)]
     rfl
    exact zAM (.slice a4 a5 a6) (by unfold execOp; simp only [ev_c, e42]; go_simp) ⟨_, rfl, rfl, ⟨hB.1, hB.2.other (Nat.le_refl _) (by unfold pl3; omega)⟩, fun j hj _ ht => T8.pres hu hj (Below.refl _ _) ht⟩
   case o7 =>
    intro a W vs hu hB hd ho
    have e43 : a.eval (.tmp 43) = .slice a4 a5 a6 := by
     have h9 := hd 6 43 (by kernel_rfl)
     rw [h9.1]
     exact h9.2
    exact zD8 43 _ _ rfl _ a5 _ e43 Tryz.underlying49 ⟨_, rfl, rfl, ⟨hB.1, hB.2.other (Nat.le_refl _) (by unfold pl3; omega)⟩, fun j hj _ ht => T8.pres hu hj (Below.refl _ _) ht⟩
   case o8 =>
    intro a W vs hu hB hd ho
    have e44 : a.eval (.tmp 44) = .int .i64 (a5 : Nat) := by
     have h9 := hd 7 44 (by kernel_rfl)
     rw [h9.1]
     exact h9.2
    have hal := zA2 W (.cells (madeCells #[.int .i64 0] a5) 3)
    exact op_mk _ rfl a5 (by have := HL.out; omega) e44 ⟨_, rfl, ⟨W.heap.size, rfl, hB.1.size, World.rowIs_made W (.int .i64 0) a5 3⟩, ⟨zAA hB.1 hal hB.1.size, hB.2.new (by simp)⟩, fun j hj _ ht => T8.pres hu hj hal ht⟩
   case o9 =>
    intro a W vs hu hB hd ho
    have e1 : a.eval (.tmp 1) = .pointer (some ⟨w.heap.size, 0, none⟩) := ho 1 (by kernel_rfl)
    exact zAM (.pointer (some ⟨w.heap.size, 3, none⟩)) (by unfold execOp; simp only [ev_c, e1]; go_simp) ⟨_, rfl, rfl, ⟨hB.1, hB.2.other (Nat.le_refl _) (by unfold pl3; omega)⟩, fun j hj _ ht => T8.pres hu hj (Below.refl _ _) ht⟩
   case o10 =>
    intro a W vs hu hB hd ho
    have e46 : a.eval (.tmp 46) = .pointer (some ⟨w.heap.size, 3, none⟩) := by
     have h9 := hd 9 46 (by kernel_rfl)
     rw [h9.1]
     exact h9.2
    have c9 : W.cell? ⟨w.heap.size, 3, none⟩ = some (.slice a7 a8 a9) := by
     rw [zAB ((hB.1.block _ (zAE HR5.out)).trans HR5.out)]
     rfl
    exact zAM (.slice a7 a8 a9) (by unfold execOp; simp only [ev_c, e46]; go_simp) ⟨_, rfl, rfl, ⟨hB.1, hB.2.other (Nat.le_refl _) (by unfold pl3; omega)⟩, fun j hj _ ht => T8.pres hu hj (Below.refl _ _) ht⟩
   case o11 =>
    intro a W vs hu hB hd ho
    have e47 : a.eval (.tmp 47) = .slice a7 a8 a9 := by
     have h9 := hd 10 47 (by kernel_rfl)
     rw [h9.1]
     exact h9.2
    exact zD8 47 _ _ rfl _ a8 _ e47 Tryz.underlying50 ⟨_, rfl, rfl, ⟨hB.1, hB.2.other (Nat.le_refl _) (by unfold pl3; omega)⟩, fun j hj _ ht => T8.pres hu hj (Below.refl _ _) ht⟩
   case o12 =>
    intro a W vs hu hB hd ho
    have e48 : a.eval (.tmp 48) = .int .i64 (a8 : Nat) := by
     have h9 := hd 11 48 (by kernel_rfl)
     rw [h9.1]
     exact h9.2
    have hal := zA2 W (.cells (madeCells #[.int .i64 0] a8) 3)
    exact op_mk _ rfl a8 (by have := HL.out; omega) e48 ⟨_, rfl, ⟨W.heap.size, rfl, hB.1.size, World.rowIs_made W (.int .i64 0) a8 3⟩, ⟨zAA hB.1 hal hB.1.size, hB.2.new (by simp)⟩, fun j hj _ ht => T8.pres hu hj hal ht⟩
   case o13 =>
    intro a W vs hu hB hd ho
    have e37 : a.eval (.tmp 37) = .int .i64 d := by
     have h9 := hd 0 37 (by kernel_rfl)
     rw [h9.1]
     exact h9.2
    have h4 := hd 4 41 (by kernel_rfl)
    have h8 := hd 8 45 (by kernel_rfl)
    have h12 := hd 12 49 (by kernel_rfl)
    obtain ⟨g1, f1, s1, r1⟩ := h4.2
    obtain ⟨g2, f2, s2, r2⟩ := h8.2
    obtain ⟨g3, f3, s3, r3⟩ := h12.2
    have e41 := h4.1.trans f1
    have e45 := h8.1.trans f2
    have e49 := h12.1.trans f3
    have n12 := (hB.2 4 g1 a2 (.inl rfl) f1).2 8 g2 a5 (.inr (.inl rfl)) (by decide) f2
    have n13 := (hB.2 4 g1 a2 (.inl rfl) f1).2 12 g3 a8 (.inr (.inr rfl)) (by decide) f3
    have n23 := (hB.2 8 g2 a5 (.inr (.inl rfl)) f2).2 12 g3 a8 (.inr (.inr rfl)) (by decide) f3
    exact op_bd 69 _ rfl #[(0, .int .i64 d), (1, .slice (some ⟨g1, 0, none⟩) a2 a2), (2, .slice (some ⟨g2, 0, none⟩) a5 a5), (3, .slice (some ⟨g3, 0, none⟩) a8 a8)] (by simp [ev_c, e37, e41, e45, e49]) (.agg #[.int .i64 d, .slice (some ⟨g1, 0, none⟩) a2 a2, .slice (some ⟨g2, 0, none⟩) a5 a5, .slice (some ⟨g3, 0, none⟩) a8 a8]) (by kernel_rfl) ⟨_, rfl, ⟨g1, g2, g3, rfl, r1, r2, r3, fun c => n12 c.symm, fun c => n13 c.symm, fun c => n23 c.symm, s1, s2, s3⟩, ⟨hB.1, hB.2.other (Nat.le_refl _) (by unfold pl3; omega)⟩, fun j hj _ ht => T8.pres hu hj (Below.refl _ _) ht⟩
   case o14 =>
    intro a W vs hu hB hd ho
    have hal := zA2 W (.cells #[.int .i64 0, .slice none 0 0, .slice none 0 0, .slice none 0 0] 69)
    exact op_al 69 rfl [.int .i64 0, .slice none 0 0, .slice none 0 0, .slice none 0 0] (by kernel_rfl) ⟨_, rfl, ⟨W.heap.size, [.int .i64 0, .slice none 0 0, .slice none 0 0, .slice none 0 0], rfl, hB.1.size, rfl, heap_alloc_new _ _⟩, ⟨zAA hB.1 hal hB.1.size, hB.2.other hal.size (by unfold pl3; omega)⟩, fun j hj _ ht => T8.pres hu hj hal ht⟩
   case o15 =>
    intro a W vs hu hB hd ho
    have h13 := hd 13 50 (by kernel_rfl)
    have h14 := hd 14 8 (by kernel_rfl)
    obtain ⟨g1, g2, g3, f13, q⟩ := h13.2
    obtain ⟨b, cs, f14, sb, lc, hb⟩ := h14.2
    refine op_st 69 _ _ rfl b 0 cs 69 (.agg #[.int .i64 d, .slice (some ⟨g1, 0, none⟩) a2 a2, .slice (some ⟨g2, 0, none⟩) a5 a5, .slice (some ⟨g3, 0, none⟩) a8 a8]) [.int .i64 d, .slice (some ⟨g1, 0, none⟩) a2 a2, .slice (some ⟨g2, 0, none⟩) a5 a5, .slice (some ⟨g3, 0, none⟩) a8 a8] (h14.1.trans f14) (h13.1.trans f13) (by rfl) hb (by rw [lc]; exact Nat.le_refl 4) (by kernel_rfl) (by rfl) ?_
    intro w' hb' hf
    have hb2 : w'.heap[b]? = some (.cells #[.int .i64 d, .slice (some ⟨g1, 0, none⟩) a2 a2, .slice (some ⟨g2, 0, none⟩) a5 a5, .slice (some ⟨g3, 0, none⟩) a8 a8] 69 (0, 0)) := by rw [hb', ovrAll cs _ (by rw [lc]; rfl)]
    refine ⟨undef, rfl, ⟨b, g1, g2, g3, (zAS vs undef (by decide)).trans f14, sb, hb2, q.1.fr hb hf, q.2.1.fr hb hf, q.2.2.1.fr hb hf, q.2.2.2⟩, ⟨zAU hB.1 hf sb (Nat.le_refl _), hB.2.other hf.size (by unfold pl3; omega)⟩, fun j hj _ ht => T8.store f14 hj hb (cs' := [.int .i64 d, .slice (some ⟨g1, 0, none⟩) a2 a2, .slice (some ⟨g2, 0, none⟩) a5 a5, .slice (some ⟨g3, 0, none⟩) a8 a8]) hb2 rfl hf ht⟩
   case hend =>
    intro vs W hB hT
    obtain ⟨b, g1, g2, g3, e14, sb, hbk, r1, r2, r3, n12, n13, n23, s1, s2, s3⟩ : T8 d w.heap.size w5.heap.size a1 a2 a3 a4 a5 a6 a7 a8 a9 15 vs W := hT 15 (by decide)
    have e0 : vs 0 = .int .i64 d := hT 0 (by decide)
    simp only [List.toList_toArray, fill, if_true, Act.put, List.setIfInBounds_toArray, List.set_cons_zero, List.set_cons_succ, e14]
    have HBW := hid hB.1
    have HBK := hid hbk
    have HN3 := hid (And.intro n12 (And.intro n13 n23))
    have HS3 := hid (And.intro s1 (And.intro s2 (And.intro s3 sb)))
    have HR1 := hid r1
    have HR2' := hid r2
    have HR3 := hid r3
    generalize vs 0 = v0
    generalize vs 1 = v1
    generalize vs 2 = v2
    generalize vs 3 = v3
    generalize vs 4 = v4
    generalize vs 5 = v5
    generalize vs 6 = v6
    generalize vs 7 = v7
    generalize vs 8 = v8
    generalize vs 9 = v9
    generalize vs 10 = v10
    generalize vs 11 = v11
    generalize vs 12 = v12
    generalize vs 13 = v13
    clear hB hT e14 e0 hbk n12 n13 n23 s1 s2 s3 sb r1 r2 r3
    clear vs
    have HMM := hid (fun W9 (hW : Below w5.heap.size w5 W9) => (HV3.out.2.2.of_below (zAA HB34.out (zAA HB45.out hW HB45.out.size) HB34.out.size)).mat (p := some ⟨vb, 0, none⟩) (fun _ => rfl) HV3.out.1 HV3.out.2.1)
    have HNN := hid (fun W9 (hW : Below w5.heap.size w5 W9) => And.intro (zAJ HNR.out.2.1 (zAA HB45.out hW HB45.out.size)) (fun i (hi : i < a5) => (HNR.out.2.2 i hi).fr (by omega) (Fr.of_below (X := fun _ => False) (zAA HB45.out hW HB45.out.size)) (fun x h => h.elim)))
    have HRR := hid (fun W9 (hW : Below w5.heap.size w5 W9) => (hW.block _ (zAE HR5.out)).trans HR5.out)
    have HMB := hid (HRX.out M rfl).1
    have hl4 : (a2 : Int) ≤ 3 ∧ (a5 : Int) ≤ 2 ∧ (a8 : Int) ≤ 2 := by have := HL.out; omega
    obtain ⟨hl4, hl5, hl6⟩ := hl4
    have q9 : W.cell? ⟨w.heap.size, 1, none⟩ = some (.slice a1 a2 a3) := by rw [zAB (HRR.out W HBW.out)]; rfl
    clear q4
    go_wp2_with fail
    clear q9
    go_loopg [54] (a2 + 1) (fun gg io wr => ∃ (k : Nat) (f : Nat → Value), k ≤ a2 ∧ gg = a2 + 1 - k ∧ io = .int .i64 (k : Nat) ∧ wr.rowIs g1 3 a2 f ∧ (∀ i, i < k → f i = .int .i64 (pW M a2 d i)) ∧ RW wr g2 a5 ∧ RW wr g3 a8 ∧ wr.heap[b]? = some (.cells #[.int .i64 d, .slice (some ⟨g1, 0, none⟩) a2 a2, .slice (some ⟨g2, 0, none⟩) a5 a5, .slice (some ⟨g3, 0, none⟩) a8 a8] 69 (0, 0)) ∧ Below w5.heap.size w5 wr)
    case atStart => exact ⟨0, _, by omega, by omega, rfl, HR1.out, fun i hi => by omega, HR2'.out, HR3.out, HBK.out, HBW.out⟩
    case round =>
     obtain ⟨k, f, hk, rfl, rfl, hF, hFP, hG2, hG3, hPB, hBr⟩ := hrel
     clear HR1 HR2' HR3 HBK HBW
     have HF := hid hF
     have HFP := hid hFP
     have HG2 := hid hG2
     have HG3 := hid hG3
     have HPB := hid hPB
     have HBW1 := hid hBr
     have HRW := hid (HRR.out wr hBr)
     clear hF hFP hG2 hG3 hPB hBr
     by_cases hkn : k < a2
     . have HKN := hid hkn
       have k1 : (0 : Int) ≤ (k : Int) := by omega
       have k2 : (k : Int) < (a2 : Int) := by omega
       have HGR := hid (fun W9 (hW : Below wr.heap.size wr W9) => B8.greatest_any _ (2 * a2) M k a2 W9 (HMM.out W9 (zAA HBW1.out hW HBW1.out.size)) (by omega) (Nat.le_refl _) (by omega))
       have hxi := zGN (Z := M) (n := 2 * a2) (r := 2 * k + 1) (by have h9 := HMB.out; rw [HC.out] at h9; exact h9) (by omega) (by omega) (c := a2) (Nat.le_refl _)
       obtain ⟨x, hx⟩ : ∃ z, greZ M (2 * k + 1) a2 = z := ⟨_, rfl⟩
       have HNE := hid (fun (W9 : World) (_ : Below wr.heap.size wr W9) => B8.need_any x d W9 (by rw [hx] at hxi; unfold nob at hxi; omega) (by rw [hx] at hxi; unfold nob at hxi; omega) HD.out.1 (by have := HD.out; omega))
       obtain ⟨y, hy⟩ : ∃ z, neeZ x d = z := ⟨_, rfl⟩
       have HY : Hid (y = pW M a2 d k) := by show y = neeZ (greZ M (2 * k + 1) a2) d; rw [hx, hy]
       rw [hx] at HGR
       rw [hy] at HNE
       clear hx hy hxi hkn hk
       go_upto_region 12 with fail
       refine zAT (by kernel_rfl) (fun i9 w9 v => ([(fun w9 v => v = .pointer (some ⟨b, 1, none⟩)), (fun w9 v => v = .slice (some ⟨g1, 0, none⟩) a2 a2), (fun w9 v => v = .int .i64 (k : Nat)), (fun w9 v => v = .slice (some ⟨vb, 0, none⟩) (2 * a2) vc), (fun w9 v => v = .int .i64 (k : Nat)), (fun w9 v => v = .pointer (some ⟨w.heap.size, 1, none⟩)), (fun w9 v => v = .slice a1 a2 a3), (fun w9 v => v = .int .i64 (a2 : Nat)), (fun w9 v => v = .int .i64 x), (fun w9 v => v = .int .i64 d), (fun w9 v => v = .int .i64 y), (fun w9 v => v = .pointer (some ⟨g1, k, none⟩))] : List (World → Value → Prop)).getD i9 (fun _ _ => True) w9 v) (fun W => Below wr.heap.size wr W) 114 12 rfl rfl (by kernel_rfl) (by kernel_rfl) (fun W W' => Below W.heap.size W W') ?hmon (Below.drew (Below.refl _ _)) (zAD.cons ?o0 (zAD.cons ?o1 (zAD.cons ?o2 (zAD.cons ?o3 (zAD.cons ?o4 (zAD.cons ?o5 (zAD.cons ?o6 (zAD.cons ?o7 (zAD.cons ?o8 (zAD.cons ?o9 (zAD.cons ?o10 (zAD.cons ?o11 zAD.nil)))))))))))) ?hend
       case hmon =>
        intro q W W' v hb h
        rcases q with _ | _ | _ | _ | _ | _ | _ | _ | _ | _ | _ | _ | q
        . exact h
        . exact h
        . exact h
        . exact h
        . exact h
        . exact h
        . exact h
        . exact h
        . exact h
        . exact h
        . exact h
        . exact h
        . exact h
       case o0 =>
        intro a W hB hd ho
        have e8 : a.eval (.tmp 8) = .pointer (some ⟨b, 0, none⟩) := ho 8 (by kernel_rfl)
        exact zAM (.pointer (some ⟨b, 1, none⟩)) (by unfold execOp; simp only [ev_c, e8]; go_simp) ⟨_, rfl, rfl, hB, Below.refl _ _⟩
       case o1 =>
        intro a W hB hd ho
        have e57 : a.eval (.tmp 57) = .pointer (some ⟨b, 1, none⟩) := hd 0 57 (by kernel_rfl)
        have c9 : W.cell? ⟨b, 1, none⟩ = some (.slice (some ⟨g1, 0, none⟩) a2 a2) := by
          rw [zAB ((hB.block _ (zAE HPB.out)).trans HPB.out)]
          rfl
        exact zAM (.slice (some ⟨g1, 0, none⟩) a2 a2) (by unfold execOp; simp only [ev_c, e57]; go_simp) ⟨_, rfl, rfl, hB, Below.refl _ _⟩
       case o2 =>
        intro a W hB hd ho
        have e9 : a.eval (.tmp 9) = .int .i64 (k : Nat) := ho 9 (by kernel_rfl)
        exact zA6 _ (by simp) _ e9 ⟨_, rfl, rfl, hB, Below.refl _ _⟩
       case o3 =>
        intro a W hB hd ho
        have e4 : a.eval (.tmp 4) = .slice (some ⟨vb, 0, none⟩) (2 * a2) vc := ho 4 (by kernel_rfl)
        exact zA6 _ (by simp) _ e4 ⟨_, rfl, rfl, hB, Below.refl _ _⟩
       case o4 =>
        intro a W hB hd ho
        have e9 : a.eval (.tmp 9) = .int .i64 (k : Nat) := ho 9 (by kernel_rfl)
        exact zA6 _ (by simp) _ e9 ⟨_, rfl, rfl, hB, Below.refl _ _⟩
       case o5 =>
        intro a W hB hd ho
        have e1 : a.eval (.tmp 1) = .pointer (some ⟨w.heap.size, 0, none⟩) := ho 1 (by kernel_rfl)
        exact zAM (.pointer (some ⟨w.heap.size, 1, none⟩)) (by unfold execOp; simp only [ev_c, e1]; go_simp) ⟨_, rfl, rfl, hB, Below.refl _ _⟩
       case o6 =>
        intro a W hB hd ho
        have e62 : a.eval (.tmp 62) = .pointer (some ⟨w.heap.size, 1, none⟩) := hd 5 62 (by kernel_rfl)
        have c9 : W.cell? ⟨w.heap.size, 1, none⟩ = some (.slice a1 a2 a3) := by
          rw [zAB ((hB.block _ (zAE HRW.out)).trans HRW.out)]
          rfl
        exact zAM (.slice a1 a2 a3) (by unfold execOp; simp only [ev_c, e62]; go_simp) ⟨_, rfl, rfl, hB, Below.refl _ _⟩
       case o7 =>
        intro a W hB hd ho
        have e63 : a.eval (.tmp 63) = .slice a1 a2 a3 := hd 6 63 (by kernel_rfl)
        exact zD8 63 _ _ rfl _ a2 _ e63 Tryz.underlying49 ⟨_, rfl, rfl, hB, Below.refl _ _⟩
       case o8 =>
        intro a W hB hd ho
        have e60 : a.eval (.tmp 60) = .slice (some ⟨vb, 0, none⟩) (2 * a2) vc := hd 3 60 (by kernel_rfl)
        have e61 : a.eval (.tmp 61) = .int .i64 (k : Nat) := hd 4 61 (by kernel_rfl)
        have e64 : a.eval (.tmp 64) = .int .i64 (a2 : Nat) := hd 7 64 (by kernel_rfl)
        refine zE5 50 zJQ _ _ rfl #[.slice (some ⟨vb, 0, none⟩) (2 * a2) vc, .int .i64 (k : Nat), .int .i64 (a2 : Nat)] (by simp [e60, e61, e64]) _ (HGR.out W hB) ?_
        rintro e W' ⟨rfl, hb⟩
        exact ⟨_, rfl, _, rfl, rfl, zAA hB hb hB.size, hb⟩
       case o9 =>
        intro a W hB hd ho
        have e7 : a.eval (.tmp 7) = .int .i64 d := ho 7 (by kernel_rfl)
        exact zA6 _ (by simp) _ e7 ⟨_, rfl, rfl, hB, Below.refl _ _⟩
       case o10 =>
        intro a W hB hd ho
        have e65 : a.eval (.tmp 65) = .int .i64 x := hd 8 65 (by kernel_rfl)
        have e66 : a.eval (.tmp 66) = .int .i64 d := hd 9 66 (by kernel_rfl)
        refine zE5 49 zGD _ _ rfl #[.int .i64 x, .int .i64 d] (by simp [e65, e66]) _ (HNE.out W hB) ?_
        rintro e W' ⟨rfl, rfl⟩
        exact ⟨_, rfl, _, rfl, rfl, hB, Below.refl _ _⟩
       case o11 =>
        intro a W hB hd ho
        have e58 : a.eval (.tmp 58) = .slice (some ⟨g1, 0, none⟩) a2 a2 := hd 1 58 (by kernel_rfl)
        have e59 : a.eval (.tmp 59) = .int .i64 (k : Nat) := hd 2 59 (by kernel_rfl)
        exact zAM (.pointer (some ⟨g1, k, none⟩)) (by unfold execOp; simp only [ev_c, e58, e59]; go_simp) ⟨_, rfl, rfl, hB, Below.refl _ _⟩
       case hend =>
        intro vs W o ho hB hT
        have e0 : vs 0 = .pointer (some ⟨b, 1, none⟩) := hT 0 (by decide)
        have e1 : vs 1 = .slice (some ⟨g1, 0, none⟩) a2 a2 := hT 1 (by decide)
        have e2 : vs 2 = .int .i64 (k : Nat) := hT 2 (by decide)
        have e3 : vs 3 = .slice (some ⟨vb, 0, none⟩) (2 * a2) vc := hT 3 (by decide)
        have e4 : vs 4 = .int .i64 (k : Nat) := hT 4 (by decide)
        have e5 : vs 5 = .pointer (some ⟨w.heap.size, 1, none⟩) := hT 5 (by decide)
        have e6 : vs 6 = .slice a1 a2 a3 := hT 6 (by decide)
        have e7 : vs 7 = .int .i64 (a2 : Nat) := hT 7 (by decide)
        have e8 : vs 8 = .int .i64 x := hT 8 (by decide)
        have e9 : vs 9 = .int .i64 d := hT 9 (by decide)
        have e10 : vs 10 = .int .i64 y := hT 10 (by decide)
        have e11 : vs 11 = .pointer (some ⟨g1, k, none⟩) := hT 11 (by decide)
        cases (show some _ = some o from ho)
        simp only [List.toList_toArray, List.take_succ_cons, List.take_zero, fill, if_true, Act.put, List.setIfInBounds_toArray, List.set_cons_zero, List.set_cons_succ, e0, e1, e2, e3, e4, e5, e6, e7, e8, e9, e10, e11]
        refine zHH _ _ rfl g1 a2 k f (zAJ HF.out hB) HKN.out (by rfl) y (by rfl) ?_
        intro W' hrow hf
        have HROW := hid hrow
        have HG2' := hid (zBC (zAJ HG2.out hB) hf (fun c => HN3.out.1 c.symm))
        have HG3' := hid (zBC (zAJ HG3.out hB) hf (fun c => HN3.out.2.1 c.symm))
        have HPB' : Hid (W'.heap[b]? = some (.cells #[.int .i64 d, .slice (some ⟨g1, 0, none⟩) a2 a2, .slice (some ⟨g2, 0, none⟩) a5 a5, .slice (some ⟨g3, 0, none⟩) a8 a8] 69 (0, 0))) := (hf.block _ (by have := zAE HPB.out; have := hB.size; omega) (zIQ HF.out HPB.out)).trans ((hB.block _ (zAE HPB.out)).trans HPB.out)
        have HBW' : Hid (Below w5.heap.size w5 W') := zAU (zAA HBW1.out hB HBW1.out.size) hf HS3.out.1 (Nat.le_refl _)
        clear hrow hf hB hT e0 e1 e2 e3 e4 e5 e6 e7 e8 e9 e10 e11
        clear vs
        go_wp2_with fail
        go_roundg (a2 + 1 - (k + 1))
        case rel =>
          refine ⟨k + 1, _, HKN.out, rfl, by go_num, HROW.out, fun i hi => ?_, HG2'.out, HG3'.out, HPB'.out, HBW'.out⟩
          show (if i = k then _ else _) = _
          by_cases c : i = k
          . subst c; rw [if_pos rfl, HY.out]
          . rw [if_neg c]; exact HFP.out i (by omega)
        case measure => have := HKN.out; omega
     . obtain rfl : k = a2 := by omega
       have HG1 : Hid (wr.rowIs g1 3 k (fun i => .int .i64 (pW M k d i))) := HF.out.congr (fun i hi => HFP.out i hi)
       clear hkn hk HF HFP
       go_wp2_with fail
       have HR2' := HG2
       clear HG2
       have HG1a := HG1
       have HR3 := HG3
       have HBKa := HPB
       have HBWa := HBW1
       clear HG1 HG3 HPB HBW1 HRW
       go_loopg [72] (a5 + 1) (fun gg io wr => ∃ (m : Nat) (f : Nat → Value), m ≤ a5 ∧ gg = a5 + 1 - m ∧ io = .int .i64 (m : Nat) ∧ wr.rowIs g1 3 k (fun i => .int .i64 (pW M k d i)) ∧ wr.rowIs g2 3 a5 f ∧ (∀ i, i < m → f i = .int .i64 (pN (nmx ws ks ts) k d i)) ∧ (∀ i, m ≤ i → i < a5 → f i = .int .i64 0) ∧ RW wr g3 a8 ∧ wr.heap[b]? = some (.cells #[.int .i64 d, .slice (some ⟨g1, 0, none⟩) k k, .slice (some ⟨g2, 0, none⟩) a5 a5, .slice (some ⟨g3, 0, none⟩) a8 a8] 69 (0, 0)) ∧ Below w5.heap.size w5 wr)
       case atStart => exact ⟨0, _, by omega, by omega, rfl, HG1a.out, HR2'.out, fun i hi => by omega, fun i _ _ => rfl, HR3.out, HBKa.out, HBWa.out⟩
       case round =>
        obtain ⟨m, f, hm, rfl, rfl, hG1, hF, hFP, hFZ, hG3, hPB, hBr⟩ := hrel
        clear HG1a HR2' HR3 HBKa HBWa
        have HF := hid hF
        have HFP := hid hFP
        have HFZ := hid hFZ
        have HG1 := hid hG1
        have HG3 := hid hG3
        have HPB := hid hPB
        have HBW1 := hid hBr
        have HRW := hid (HRR.out wr hBr)
        obtain ⟨hnr, hnf⟩ := HNN.out wr hBr
        clear hF hFP hFZ hG1 hG3 hPB hBr
        by_cases hkn : m < a5
        . have HKN := hid hkn
          have k1 : (0 : Int) ≤ (m : Int) := by omega
          have k2 : (m : Int) < (a5 : Int) := by omega
          have z1 := hnr.cell hkn
          have hnt := hnf m hkn
          have HNB2 := hid (fun R => HNB.out m R hkn)
          have HPE : Hid (pN (nmx ws ks ts) k d m = match nmx ws ks ts m with | none => 0 | some R => max (neeZ (greZ R (2 * k + 1) k) d) 0) := rfl
          obtain ⟨lm, hlm⟩ : ∃ x, nmx ws ks ts m = x := ⟨_, rfl⟩
          rw [hlm] at hnt HNB2 HPE
          clear hnr hnf hlm hkn hm
          cases lm with
          | none =>
            have hfm : fN m = .slice none 0 0 := hnt
            rw [hfm] at z1
            have E1 : ∀ w, (binOp .neq 130 (.slice none 0 0) (.slice none 0 0)).run Tryz.prog w = .ok (.bool false) w := fun w => run_neq_slice_nil w _ _ _ _ _ Tryz.underlying130
            clear hnt hfm
            go_wp2_with fail
            go_roundg (a5 + 1 - (m + 1))
            case rel =>
              refine ⟨m + 1, f, HKN.out, rfl, by go_num, HG1.out, HF.out, fun i hi => ?_, fun i h1 h2 => HFZ.out i (by omega) h2, HG3.out, HPB.out, HBW1.out⟩
              by_cases c : i = m
              . subst c; rw [HPE.out]; exact HFZ.out i (Nat.le_refl _) HKN.out
              . exact HFP.out i (by omega)
            case measure => have := HKN.out; omega
          | some R =>
            have HRM := hid hnt
            obtain ⟨rc, rb, rG, rC, hfm, hq1, hq2, hq3⟩ := hnt
            have HR9 := hid (And.intro hq1 (And.intro hq2 hq3))
            rw [hfm] at z1
            have E2 : ∀ w, (binOp .neq 130 (.slice (some ⟨rb, 0, none⟩) (2 * (k + 1)) rc) (.slice none 0 0)).run Tryz.prog w = .ok (.bool true) w := fun w => run_neq_slice_nil w _ _ _ _ _ Tryz.underlying130
            have HGR := hid (fun W9 (hW : Below wr.heap.size wr W9) => B8.greatest_any (.slice (some ⟨rb, 0, none⟩) (2 * (k + 1)) rc) (2 * (k + 1)) R k k W9 ((HR9.out.2.2.of_below hW).mat (fun _ => rfl) HR9.out.1 HR9.out.2.1) (by omega) (by omega) (by omega))
            have hxi := zGN (Z := R) (n := 2 * (k + 1)) (r := 2 * k + 1) (HNB2.out R rfl) (by omega) (by omega) (c := k) (by omega)
            obtain ⟨x, hx⟩ : ∃ z, greZ R (2 * k + 1) k = z := ⟨_, rfl⟩
            have HNE := hid (fun (W9 : World) (_ : Below wr.heap.size wr W9) => B8.need_any x d W9 (by rw [hx] at hxi; unfold nob at hxi; omega) (by rw [hx] at hxi; unfold nob at hxi; omega) HD.out.1 (by have := HD.out; omega))
            obtain ⟨y, hy⟩ : ∃ z, neeZ x d = z := ⟨_, rfl⟩
            obtain ⟨z, hz⟩ : ∃ z, z = max y 0 := ⟨_, rfl⟩
            have HZM := hid hz
            have HY : Hid (z = pN (nmx ws ks ts) k d m) := by show _ = _; rw [HPE.out]; show z = max (neeZ (greZ R (2 * k + 1) k) d) 0; rw [hx, hy, hz]
            rw [hx] at HGR
            rw [hy] at HNE
            clear hx hy hxi hfm hq1 hq2 hq3 hz HNB2
            go_upto_region 18 with fail
            refine zAT (by kernel_rfl) (fun i9 w9 v => ([(fun w9 v => v = .pointer (some ⟨b, 2, none⟩)), (fun w9 v => v = .slice (some ⟨g2, 0, none⟩) a5 a5), (fun w9 v => v = .int .i64 (m : Nat)), (fun w9 v => v = .slice (some ⟨rb, 0, none⟩) (2 * (k + 1)) rc), (fun w9 v => v = .pointer (some ⟨w.heap.size, 1, none⟩)), (fun w9 v => v = .slice a1 k a3), (fun w9 v => v = .int .i64 (k : Nat)), (fun w9 v => v = .pointer (some ⟨w.heap.size, 1, none⟩)), (fun w9 v => v = .slice a1 k a3), (fun w9 v => v = .int .i64 (k : Nat)), (fun w9 v => v = .int .i64 x), (fun w9 v => v = .int .i64 d), (fun w9 v => v = .int .i64 y), (fun w9 v => v = .int .i64 z), (fun w9 v => v = .pointer (some ⟨g2, m, none⟩))] : List (World → Value → Prop)).getD i9 (fun _ _ => True) w9 v) (fun W => Below wr.heap.size wr W) 114 15 rfl rfl (by kernel_rfl) (by kernel_rfl) (fun W W' => Below W.heap.size W W') ?hmon (Below.drew (Below.refl _ _)) (zAD.cons ?o0 (zAD.cons ?o1 (zAD.cons ?o2 (zAD.cons ?o3 (zAD.cons ?o4 (zAD.cons ?o5 (zAD.cons ?o6 (zAD.cons ?o7 (zAD.cons ?o8 (zAD.cons ?o9 (zAD.cons ?o10 (zAD.cons ?o11 (zAD.cons ?o12 (zAD.cons ?o13 (zAD.cons ?o14 zAD.nil))))))))))))))) ?hend
            case hmon =>
              intro q W W' v hb h
              rcases q with _ | _ | _ | _ | _ | _ | _ | _ | _ | _ | _ | _ | _ | _ | _ | q
              . exact h
              . exact h
              . exact h
              . exact h
              . exact h
              . exact h
              . exact h
              . exact h
              . exact h
              . exact h
              . exact h
              . exact h
              . exact h
              . exact h
              . exact h
              . exact h
            case o0 =>
              intro a W hB hd ho
              have e8 : a.eval (.tmp 8) = .pointer (some ⟨b, 0, none⟩) := ho 8 (by kernel_rfl)
              exact zAM (.pointer (some ⟨b, 2, none⟩)) (by unfold execOp; simp only [ev_c, e8]; go_simp) ⟨_, rfl, rfl, hB, Below.refl _ _⟩
            case o1 =>
              intro a W hB hd ho
              have e79 : a.eval (.tmp 79) = .pointer (some ⟨b, 2, none⟩) := hd 0 79 (by kernel_rfl)
              have c9 : W.cell? ⟨b, 2, none⟩ = some (.slice (some ⟨g2, 0, none⟩) a5 a5) := by
                rw [zAB ((hB.block _ (zAE HPB.out)).trans HPB.out)]
                rfl
              exact zAM (.slice (some ⟨g2, 0, none⟩) a5 a5) (by unfold execOp; simp only [ev_c, e79]; go_simp) ⟨_, rfl, rfl, hB, Below.refl _ _⟩
            case o2 =>
              intro a W hB hd ho
              have e10 : a.eval (.tmp 10) = .int .i64 (m : Nat) := ho 10 (by kernel_rfl)
              exact zA6 _ (by simp) _ e10 ⟨_, rfl, rfl, hB, Below.refl _ _⟩
            case o3 =>
              intro a W hB hd ho
              have e11 : a.eval (.tmp 11) = .slice (some ⟨rb, 0, none⟩) (2 * (k + 1)) rc := ho 11 (by kernel_rfl)
              exact zA6 _ (by simp) _ e11 ⟨_, rfl, rfl, hB, Below.refl _ _⟩
            case o4 =>
              intro a W hB hd ho
              have e1 : a.eval (.tmp 1) = .pointer (some ⟨w.heap.size, 0, none⟩) := ho 1 (by kernel_rfl)
              exact zAM (.pointer (some ⟨w.heap.size, 1, none⟩)) (by unfold execOp; simp only [ev_c, e1]; go_simp) ⟨_, rfl, rfl, hB, Below.refl _ _⟩
            case o5 =>
              intro a W hB hd ho
              have e83 : a.eval (.tmp 83) = .pointer (some ⟨w.heap.size, 1, none⟩) := hd 4 83 (by kernel_rfl)
              have c9 : W.cell? ⟨w.heap.size, 1, none⟩ = some (.slice a1 k a3) := by
                rw [zAB ((hB.block _ (zAE HRW.out)).trans HRW.out)]
                rfl
              exact zAM (.slice a1 k a3) (by unfold execOp; simp only [ev_c, e83]; go_simp) ⟨_, rfl, rfl, hB, Below.refl _ _⟩
            case o6 =>
              intro a W hB hd ho
              have e84 : a.eval (.tmp 84) = .slice a1 k a3 := hd 5 84 (by kernel_rfl)
              exact zD8 84 _ _ rfl _ k _ e84 Tryz.underlying49 ⟨_, rfl, rfl, hB, Below.refl _ _⟩
            case o7 =>
              intro a W hB hd ho
              have e1 : a.eval (.tmp 1) = .pointer (some ⟨w.heap.size, 0, none⟩) := ho 1 (by kernel_rfl)
              exact zAM (.pointer (some ⟨w.heap.size, 1, none⟩)) (by unfold execOp; simp only [ev_c, e1]; go_simp) ⟨_, rfl, rfl, hB, Below.refl _ _⟩
            case o8 =>
              intro a W hB hd ho
              have e86 : a.eval (.tmp 86) = .pointer (some ⟨w.heap.size, 1, none⟩) := hd 7 86 (by kernel_rfl)
              have c9 : W.cell? ⟨w.heap.size, 1, none⟩ = some (.slice a1 k a3) := by
                rw [zAB ((hB.block _ (zAE HRW.out)).trans HRW.out)]
                rfl
              exact zAM (.slice a1 k a3) (by unfold execOp; simp only [ev_c, e86]; go_simp) ⟨_, rfl, rfl, hB, Below.refl _ _⟩
            case o9 =>
              intro a W hB hd ho
              have e87 : a.eval (.tmp 87) = .slice a1 k a3 := hd 8 87 (by kernel_rfl)
              exact zD8 87 _ _ rfl _ k _ e87 Tryz.underlying49 ⟨_, rfl, rfl, hB, Below.refl _ _⟩
            case o10 =>
              intro a W hB hd ho
              have e82 : a.eval (.tmp 82) = .slice (some ⟨rb, 0, none⟩) (2 * (k + 1)) rc := hd 3 82 (by kernel_rfl)
              have e85 : a.eval (.tmp 85) = .int .i64 (k : Nat) := hd 6 85 (by kernel_rfl)
              have e88 : a.eval (.tmp 88) = .int .i64 (k : Nat) := hd 9 88 (by kernel_rfl)
              refine zE5 50 zJQ _ _ rfl #[.slice (some ⟨rb, 0, none⟩) (2 * (k + 1)) rc, .int .i64 (k : Nat), .int .i64 (k : Nat)] (by simp [e82, e85, e88]) _ (HGR.out W hB) ?_
              rintro e W' ⟨rfl, hb⟩
              exact ⟨_, rfl, _, rfl, rfl, zAA hB hb hB.size, hb⟩
            case o11 =>
              intro a W hB hd ho
              have e7 : a.eval (.tmp 7) = .int .i64 d := ho 7 (by kernel_rfl)
              exact zA6 _ (by simp) _ e7 ⟨_, rfl, rfl, hB, Below.refl _ _⟩
            case o12 =>
              intro a W hB hd ho
              have e89 : a.eval (.tmp 89) = .int .i64 x := hd 10 89 (by kernel_rfl)
              have e90 : a.eval (.tmp 90) = .int .i64 d := hd 11 90 (by kernel_rfl)
              refine zE5 49 zGD _ _ rfl #[.int .i64 x, .int .i64 d] (by simp [e89, e90]) _ (HNE.out W hB) ?_
              rintro e W' ⟨rfl, rfl⟩
              exact ⟨_, rfl, _, rfl, rfl, hB, Below.refl _ _⟩
            case o13 =>
              intro a W hB hd ho
              have e91 : a.eval (.tmp 91) = .int .i64 y := hd 12 91 (by kernel_rfl)
              exact op_max0 91 rfl y e91 z HZM.out ⟨_, rfl, rfl, hB, Below.refl _ _⟩
            case o14 =>
              intro a W hB hd ho
              have e80 : a.eval (.tmp 80) = .slice (some ⟨g2, 0, none⟩) a5 a5 := hd 1 80 (by kernel_rfl)
              have e81 : a.eval (.tmp 81) = .int .i64 (m : Nat) := hd 2 81 (by kernel_rfl)
              exact zAM (.pointer (some ⟨g2, m, none⟩)) (by unfold execOp; simp only [ev_c, e80, e81]; go_simp) ⟨_, rfl, rfl, hB, Below.refl _ _⟩
            case hend =>
              intro vs W o ho hB hT
              have e0 : vs 0 = .pointer (some ⟨b, 2, none⟩) := hT 0 (by decide)
              have e1 : vs 1 = .slice (some ⟨g2, 0, none⟩) a5 a5 := hT 1 (by decide)
              have e2 : vs 2 = .int .i64 (m : Nat) := hT 2 (by decide)
              have e3 : vs 3 = .slice (some ⟨rb, 0, none⟩) (2 * (k + 1)) rc := hT 3 (by decide)
              have e4 : vs 4 = .pointer (some ⟨w.heap.size, 1, none⟩) := hT 4 (by decide)
              have e5 : vs 5 = .slice a1 k a3 := hT 5 (by decide)
              have e6 : vs 6 = .int .i64 (k : Nat) := hT 6 (by decide)
              have e7 : vs 7 = .pointer (some ⟨w.heap.size, 1, none⟩) := hT 7 (by decide)
              have e8 : vs 8 = .slice a1 k a3 := hT 8 (by decide)
              have e9 : vs 9 = .int .i64 (k : Nat) := hT 9 (by decide)
              have e10 : vs 10 = .int .i64 x := hT 10 (by decide)
              have e11 : vs 11 = .int .i64 d := hT 11 (by decide)
              have e12 : vs 12 = .int .i64 y := hT 12 (by decide)
              have e13 : vs 13 = .int .i64 z := hT 13 (by decide)
              have e14 : vs 14 = .pointer (some ⟨g2, m, none⟩) := hT 14 (by decide)
              cases (show some _ = some o from ho)
              simp only [List.toList_toArray, List.take_succ_cons, List.take_zero, fill, if_true, Act.put, List.setIfInBounds_toArray, List.set_cons_zero, List.set_cons_succ, e0, e1, e2, e3, e4, e5, e6, e7, e8, e9, e10, e11, e12, e13, e14]
              refine zHH _ _ rfl g2 a5 m f (zAJ HF.out hB) HKN.out (by rfl) z (by rfl) ?_
              intro W' hrow hf
              have HROW := hid hrow
              have HG1' := hid (zBC (zAJ HG1.out hB) hf HN3.out.1)
              have HG3' := hid (zBC (zAJ HG3.out hB) hf (fun c => HN3.out.2.2 c.symm))
              have HPB' : Hid (W'.heap[b]? = some (.cells #[.int .i64 d, .slice (some ⟨g1, 0, none⟩) k k, .slice (some ⟨g2, 0, none⟩) a5 a5, .slice (some ⟨g3, 0, none⟩) a8 a8] 69 (0, 0))) := (hf.block _ (by have := zAE HPB.out; have := hB.size; omega) (zIQ HF.out HPB.out)).trans ((hB.block _ (zAE HPB.out)).trans HPB.out)
              have HBW' : Hid (Below w5.heap.size w5 W') := zAU (zAA HBW1.out hB HBW1.out.size) hf HS3.out.2.1 (Nat.le_refl _)
              clear hrow hf hB hT e0 e1 e2 e3 e4 e5 e6 e7 e8 e9 e10 e11 e12 e13 e14
              clear vs
              go_wp2_with fail
              go_roundg (a5 + 1 - (m + 1))
              case rel =>
                refine ⟨m + 1, _, HKN.out, rfl, by go_num, HG1'.out, HROW.out, fun i hi => ?_, fun i h1 h2 => ?_, HG3'.out, HPB'.out, HBW'.out⟩
                . show (if i = m then _ else _) = _
                  by_cases c : i = m
                  . subst c; rw [if_pos rfl, HY.out]
                  . rw [if_neg c]; exact HFP.out i (by omega)
                . show (if i = m then _ else _) = _
                  rw [if_neg (by omega)]
                  exact HFZ.out i (by omega) h2
              case measure => have := HKN.out; omega
        . obtain rfl : m = a5 := by omega
          have HG2 : Hid (wr.rowIs g2 3 m (fun i => .int .i64 (pN (nmx ws ks ts) k d i))) := HF.out.congr (fun i hi => HFP.out i hi)
          clear hkn hm HF HFP HFZ hnr hnf
          have q9 : wr.cell? ⟨w.heap.size, 3, none⟩ = some (.slice a7 a8 a9) := by rw [zAB HRW.out]; rfl
          go_wp2_with fail
          clear q9
          have HG1a := HG1
          have HG2a := HG2
          have HR3 := HG3
          have HBKa := HPB
          have HBWa := HBW1
          clear HG1 HG2 HG3 HPB HBW1 HRW
          go_loopg [98] (a8 + 1) (fun gg io wr => ∃ (j : Nat) (f : Nat → Value), j ≤ a8 ∧ gg = a8 + 1 - j ∧ io = .int .i64 (j : Nat) ∧ wr.rowIs g1 3 k (fun i => .int .i64 (pW M k d i)) ∧ wr.rowIs g2 3 m (fun i => .int .i64 (pN (nmx ws ks ts) k d i)) ∧ wr.rowIs g3 3 a8 f ∧ (∀ i, i < j → f i = .int .i64 (pM ms d i)) ∧ wr.heap[b]? = some (.cells #[.int .i64 d, .slice (some ⟨g1, 0, none⟩) k k, .slice (some ⟨g2, 0, none⟩) m m, .slice (some ⟨g3, 0, none⟩) a8 a8] 69 (0, 0)) ∧ Below w5.heap.size w5 wr)
          case atStart => exact ⟨0, _, by omega, by omega, rfl, HG1a.out, HG2a.out, HR3.out, fun i hi => by omega, HBKa.out, HBWa.out⟩
          case round =>
            obtain ⟨j, f, hj, rfl, rfl, hG1, hG2, hF, hFP, hPB, hBr⟩ := hrel
            clear HG1a HG2a HR3 HBKa HBWa
            have HF := hid hF
            have HFP := hid hFP
            have HG1 := hid hG1
            have HG2 := hid hG2
            have HPB := hid hPB
            have HBW1 := hid hBr
            clear hF hFP hG1 hG2 hPB
            by_cases hkn : j < a8
            . have hjc : j < ms.length := by have := HNM.out; omega
              obtain ⟨gm, off, rfl, hrd⟩ := HATM.out (by omega)
              obtain ⟨A, r1, o1⟩ := hrd wr (zAA HB5.out hBr HB5.out.size) j hjc
              have o1' : RdL wr (encP ms[j].p) (A.drop 2) := RdL.drop 2 o1
              obtain ⟨vc', z1, o2⟩ := rdP o1'
              obtain ⟨up, un, uc, hu⟩ := zAC o2
              rw [hu] at z1
              obtain ⟨u0, r0, hA0, hu0, o3⟩ := RdL.one o1
              obtain ⟨u1, r2, hA1, hu1, o4⟩ := RdL.one o3
              have hd2 : r2 = A.drop 2 := by rw [hA0, hA1]; rfl
              have hAz : A = .int .i64 ms[j].c :: .string ms[j].f :: ptC ms[j].p.va ms[j].p.ty ms[j].p.c.k (.slice up un uc) ms[j].p.c.l ms[j].p.c.r ms[j].p.w ms[j].p.n := by
                rw [hA0, hA1, hd2, z1, zAN hu0, zAN hu1]
              have HPMJ : Hid (pM ms d j = neeZ ms[j].p.n d) := by
                show neeZ (ms.getD j mn0).p.n d = _
                rw [List.getD_eq_getElem?_getD, List.getElem?_eq_getElem hjc]
                rfl
              have hmz := HMZ.out ms[j] (List.getElem_mem hjc)
              obtain ⟨mc, hmc⟩ : ∃ x, ms[j].c = x := ⟨_, rfl⟩
              obtain ⟨mf, hmf⟩ : ∃ x, ms[j].f = x := ⟨_, rfl⟩
              obtain ⟨va, hva⟩ : ∃ x, ms[j].p.va = x := ⟨_, rfl⟩
              obtain ⟨ty, hty⟩ : ∃ x, ms[j].p.ty = x := ⟨_, rfl⟩
              obtain ⟨ck, hck⟩ : ∃ x, ms[j].p.c.k = x := ⟨_, rfl⟩
              obtain ⟨ol, hol⟩ : ∃ x, ms[j].p.c.l = x := ⟨_, rfl⟩
              obtain ⟨or_, hor⟩ : ∃ x, ms[j].p.c.r = x := ⟨_, rfl⟩
              obtain ⟨pw, hpw⟩ : ∃ x, ms[j].p.w = x := ⟨_, rfl⟩
              obtain ⟨x, hx⟩ : ∃ x, ms[j].p.n = x := ⟨_, rfl⟩
              rw [hmc, hmf, hva, hty, hck, hol, hor, hpw, hx] at hAz
              rw [hx] at hmz HPMJ
              rw [hAz] at r1
              have XA := hid r1
              have HKN := hid hkn
              have k1 : (0 : Int) ≤ (j : Int) := by omega
              have k2 : (j : Int) < (a8 : Int) := by omega
              have HNE := hid (fun (W9 : World) (_ : True) => B8.need_any x d W9 (by omega) (by omega) HD.out.1 (by have := HD.out; omega))
              obtain ⟨y, hy⟩ : ∃ z, neeZ x d = z := ⟨_, rfl⟩
              have HY : Hid (y = pM ms d j) := by show _ = _; rw [HPMJ.out, hy]
              rw [hy] at HNE
              obtain ⟨bM, hbM⟩ : ∃ z, wr.heap.size = z := ⟨_, rfl⟩
              have HbM := hid hbM
              clear hrd o1 o1' o2 o3 o4 z1 r1 hu hA0 hA1 hu0 hu1 hd2 hAz hmc hmf hva hty hck hol hor hpw hx hmz hy hjc hBr hkn hj hbM
              go_upto_region 23 with (first
                | ((with_reducible show wpList _ _ _ (Oper.mk _ (.load 78 _) _ _ _ _ :: _) _ _); refine wpList_load_mid (by rfl) 78 _ (by rfl) gm (off + j * 20) (by rfl) (.int .i64 mc :: .string mf :: ptC va ty ck (.slice up un uc) ol or_ pw x) _ XA.out Tryz.underlying78 rfl (by kernel_rfl) ?_)
                | ((with_reducible show wpList _ _ _ (Oper.mk _ (.store 78 _ _) _ _ _ _ :: _) _ _); refine zBL 78 wr.heap.size 0 (.int .i64 0 :: .string ⟨#[]⟩ :: pt0) 78 (.int .i64 mc :: .string mf :: ptC va ty ck (.slice up un uc) ol or_ pw x) (heap_alloc_new _ _) ?_ (hl := Nat.le_refl 20); intro w6 hq1 hq2; have HBM : Hid (w6.heap[wr.heap.size]? = some (.cells (.int .i64 mc :: .string mf :: ptC va ty ck (.slice up un uc) ol or_ pw x).toArray 78 (0, 0))) := hq1; have HBW6 : Hid (Below wr.heap.size wr w6) := zAP hq2; clear hq1 hq2))
              have hbM := HbM.out
              rw [hbM] at HBM ⊢
              clear hbM
              have HF' := hid (zAJ HF.out HBW6.out)
              have HG1' := hid (zAJ HG1.out HBW6.out)
              have HG2' := hid (zAJ HG2.out HBW6.out)
              have HPB' : Hid (w6.heap[b]? = some (.cells #[.int .i64 d, .slice (some ⟨g1, 0, none⟩) k k, .slice (some ⟨g2, 0, none⟩) m m, .slice (some ⟨g3, 0, none⟩) a8 a8] 69 (0, 0))) := (HBW6.out.block _ (zAE HPB.out)).trans HPB.out
              have HBW' := hid (zAA HBW1.out HBW6.out HBW1.out.size)
              clear HF HG1 HG2 HPB HBW1
              have HF := HF'
              have HG1 := HG1'
              have HG2 := HG2'
              have HPB := HPB'
              have HBW1 := HBW'
              clear HF' HG1' HG2' HPB' HBW'
              refine zAT (by kernel_rfl) (fun i9 w9 v => ([(fun w9 v => v = .pointer (some ⟨b, 3, none⟩)), (fun w9 v => v = .slice (some ⟨g3, 0, none⟩) a8 a8), (fun w9 v => v = .int .i64 (j : Nat)), (fun w9 v => v = .pointer (some ⟨bM, 2, none⟩)), (fun w9 v => v = .pointer (some ⟨bM, 19, none⟩)), (fun w9 v => v = .int .i64 x), (fun w9 v => v = .int .i64 d), (fun w9 v => v = .int .i64 y), (fun w9 v => v = .pointer (some ⟨g3, j, none⟩))] : List (World → Value → Prop)).getD i9 (fun _ _ => True) w9 v) (fun W => Below w6.heap.size w6 W) 114 9 rfl rfl (by kernel_rfl) (by kernel_rfl) (fun W W' => Below W.heap.size W W') ?hmon (Below.drew (Below.refl _ _)) (zAD.cons ?o0 (zAD.cons ?o1 (zAD.cons ?o2 (zAD.cons ?o3 (zAD.cons ?o4 (zAD.cons ?o5 (zAD.cons ?o6 (zAD.cons ?o7 (zAD.cons ?o8 zAD.nil))))))))) ?hend
              case hmon =>
                intro q W W' v hb h
                rcases q with _ | _ | _ | _ | _ | _ | _ | _ | _ | q
                . exact h
                . exact h
                . exact h
                . exact h
                . exact h
                . exact h
                . exact h
                . exact h
                . exact h
                . exact h
              case o0 =>
                intro a W hB hd ho
                have e8 : a.eval (.tmp 8) = .pointer (some ⟨b, 0, none⟩) := ho 8 (by kernel_rfl)
                exact zAM (.pointer (some ⟨b, 3, none⟩)) (by unfold execOp; simp only [ev_c, e8]; go_simp) ⟨_, rfl, rfl, hB, Below.refl _ _⟩
              case o1 =>
                intro a W hB hd ho
                have e103 : a.eval (.tmp 103) = .pointer (some ⟨b, 3, none⟩) := hd 0 103 (by kernel_rfl)
                have c9 : W.cell? ⟨b, 3, none⟩ = some (.slice (some ⟨g3, 0, none⟩) a8 a8) := by
                  rw [zAB ((hB.block _ (zAE HPB.out)).trans HPB.out)]
                  rfl
                exact zAM (.slice (some ⟨g3, 0, none⟩) a8 a8) (by unfold execOp; simp only [ev_c, e103]; go_simp) ⟨_, rfl, rfl, hB, Below.refl _ _⟩
              case o2 =>
                intro a W hB hd ho
                have e12 : a.eval (.tmp 12) = .int .i64 (j : Nat) := ho 12 (by kernel_rfl)
                exact zA6 _ (by simp) _ e12 ⟨_, rfl, rfl, hB, Below.refl _ _⟩
              case o3 =>
                intro a W hB hd ho
                have e13 : a.eval (.tmp 13) = .pointer (some ⟨bM, 0, none⟩) := ho 13 (by kernel_rfl)
                exact zAM (.pointer (some ⟨bM, 2, none⟩)) (by unfold execOp; simp only [ev_c, e13]; go_simp) ⟨_, rfl, rfl, hB, Below.refl _ _⟩
              case o4 =>
                intro a W hB hd ho
                have e106 : a.eval (.tmp 106) = .pointer (some ⟨bM, 2, none⟩) := hd 3 106 (by kernel_rfl)
                exact zAM (.pointer (some ⟨bM, 19, none⟩)) (by unfold execOp; simp only [ev_c, e106]; go_simp) ⟨_, rfl, rfl, hB, Below.refl _ _⟩
              case o5 =>
                intro a W hB hd ho
                have e107 : a.eval (.tmp 107) = .pointer (some ⟨bM, 19, none⟩) := hd 4 107 (by kernel_rfl)
                have c9 : W.cell? ⟨bM, 19, none⟩ = some (.int .i64 x) := by
                  rw [zAB ((hB.block _ (zAE HBM.out)).trans HBM.out)]
                  rfl
                exact zAM (.int .i64 x) (by unfold execOp; simp only [ev_c, e107]; go_simp) ⟨_, rfl, rfl, hB, Below.refl _ _⟩
              case o6 =>
                intro a W hB hd ho
                have e7 : a.eval (.tmp 7) = .int .i64 d := ho 7 (by kernel_rfl)
                exact zA6 _ (by simp) _ e7 ⟨_, rfl, rfl, hB, Below.refl _ _⟩
              case o7 =>
                intro a W hB hd ho
                have e108 : a.eval (.tmp 108) = .int .i64 x := hd 5 108 (by kernel_rfl)
                have e109 : a.eval (.tmp 109) = .int .i64 d := hd 6 109 (by kernel_rfl)
                refine zE5 49 zGD _ _ rfl #[.int .i64 x, .int .i64 d] (by simp [e108, e109]) _ (HNE.out W trivial) ?_
                rintro e W' ⟨rfl, rfl⟩
                exact ⟨_, rfl, _, rfl, rfl, hB, Below.refl _ _⟩
              case o8 =>
                intro a W hB hd ho
                have e104 : a.eval (.tmp 104) = .slice (some ⟨g3, 0, none⟩) a8 a8 := hd 1 104 (by kernel_rfl)
                have e105 : a.eval (.tmp 105) = .int .i64 (j : Nat) := hd 2 105 (by kernel_rfl)
                exact zAM (.pointer (some ⟨g3, j, none⟩)) (by unfold execOp; simp only [ev_c, e104, e105]; go_simp) ⟨_, rfl, rfl, hB, Below.refl _ _⟩
              case hend =>
                intro vs W o ho hB hT
                have e0 : vs 0 = .pointer (some ⟨b, 3, none⟩) := hT 0 (by decide)
                have e1 : vs 1 = .slice (some ⟨g3, 0, none⟩) a8 a8 := hT 1 (by decide)
                have e2 : vs 2 = .int .i64 (j : Nat) := hT 2 (by decide)
                have e3 : vs 3 = .pointer (some ⟨bM, 2, none⟩) := hT 3 (by decide)
                have e4 : vs 4 = .pointer (some ⟨bM, 19, none⟩) := hT 4 (by decide)
                have e5 : vs 5 = .int .i64 x := hT 5 (by decide)
                have e6 : vs 6 = .int .i64 d := hT 6 (by decide)
                have e7 : vs 7 = .int .i64 y := hT 7 (by decide)
                have e8 : vs 8 = .pointer (some ⟨g3, j, none⟩) := hT 8 (by decide)
                cases (show some _ = some o from ho)
                simp only [List.toList_toArray, List.take_succ_cons, List.take_zero, fill, if_true, Act.put, List.setIfInBounds_toArray, List.set_cons_zero, List.set_cons_succ, e0, e1, e2, e3, e4, e5, e6, e7, e8]
                refine zHH _ _ rfl g3 a8 j f (zAJ HF.out hB) HKN.out (by rfl) y (by rfl) ?_
                intro W' hrow hf
                have HROW := hid hrow
                have HG1' := hid (zBC (zAJ HG1.out hB) hf HN3.out.2.1)
                have HG2' := hid (zBC (zAJ HG2.out hB) hf HN3.out.2.2)
                have HPB' : Hid (W'.heap[b]? = some (.cells #[.int .i64 d, .slice (some ⟨g1, 0, none⟩) k k, .slice (some ⟨g2, 0, none⟩) m m, .slice (some ⟨g3, 0, none⟩) a8 a8] 69 (0, 0))) := (hf.block _ (by have := zAE HPB.out; have := hB.size; omega) (zIQ HF.out HPB.out)).trans ((hB.block _ (zAE HPB.out)).trans HPB.out)
                have HBW' : Hid (Below w5.heap.size w5 W') := zAU (zAA HBW1.out hB HBW1.out.size) hf HS3.out.2.2.1 (Nat.le_refl _)
                clear hrow hf hB hT e0 e1 e2 e3 e4 e5 e6 e7 e8
                clear vs
                go_wp2_with fail
                go_roundg (a8 + 1 - (j + 1))
                case rel =>
                  refine ⟨j + 1, _, HKN.out, rfl, by go_num, HG1'.out, HG2'.out, HROW.out, fun i hi => ?_, HPB'.out, HBW'.out⟩
                  show (if i = j then _ else _) = _
                  by_cases c : i = j
                  . subst c; rw [if_pos rfl, HY.out]
                  . rw [if_neg c]; exact HFP.out i (by omega)
                case measure => have := HKN.out; omega
            . obtain rfl : j = a8 := by omega
              have HG3 := hid (HF.out.congr (g := fun i => .int .i64 (pM ms d i)) (fun i hi => HFP.out i hi))
              have HP9 := hid ((hBr.block _ (zAE HP5.out)).trans HP5.out)
              clear hkn hj HF HFP hBr
              go_wp2_with (first
                | ((with_reducible show wpList _ _ _ (Oper.mk _ (.load 69 _) _ _ _ _ :: _) _ _); refine wpList_load_mid (by rfl) 69 _ (by rfl) b 0 (by rfl) [.int .i64 d, .slice (some ⟨g1, 0, none⟩) k k, .slice (some ⟨g2, 0, none⟩) m m, .slice (some ⟨g3, 0, none⟩) j j] _ (zAL HPB.out) Tryz.underlying69 rfl (by kernel_rfl) ?_)
                | ((with_reducible show wpList _ _ _ (Oper.mk _ (.store 69 _ _) _ _ _ _ :: _) _ _); refine zBL 69 (w.heap.size + 1) 0 [.int .i64 0, .slice none 0 0, .slice none 0 0, .slice none 0 0] 69 [.int .i64 d, .slice (some ⟨g1, 0, none⟩) k k, .slice (some ⟨g2, 0, none⟩) m m, .slice (some ⟨g3, 0, none⟩) j j] HP9.out ?_ (hl := Nat.le_refl 4); intro w9 hq1 hq2; have HP10 := hid hq1; have HB10 : Hid (Below w.heap.size w w9) := zAU (zAA HB5.out HBW1.out HB5.out.size) hq2 (by omega) (Nat.le_refl _); have HFR := hid hq2; clear hq1 hq2))
              refine zB3 (w.heap.size + 1) [.int .i64 d, .slice (some ⟨g1, 0, none⟩) k k, .slice (some ⟨g2, 0, none⟩) m m, .slice (some ⟨g3, 0, none⟩) j j] 69 _ HP10.out rfl rfl (by rfl) Tryz.underlying69 rfl (by kernel_rfl) ⟨?_, HB10.out⟩
              have hne : ∀ g, w5.heap.size ≤ g → g ≠ w.heap.size + 1 := fun g hg => by have := zAE HP5.out; omega
              exact ⟨_, _, _, rfl, (zEY (zBC HG1.out HFR.out (hne _ HS3.out.1)) (by omega) (fun _ _ => rfl)).new (by have := HS3.out; have := HB5.out.size; omega), (zEY (zBC HG2.out HFR.out (hne _ HS3.out.2.1)) (by omega) (fun _ _ => rfl)).new (by have := HS3.out; have := HB5.out.size; omega), (zEY (zBC HG3.out HFR.out (hne _ HS3.out.2.2.1)) (by omega) (fun _ _ => rfl)).new (by have := HS3.out; have := HB5.out.size; omega)⟩
theorem zHI (ws ts : List Pt) (ms : List Mn) (ks : List Lk) (hw : Wok ws) (hl0 : Lok ws ks) (hlt : ∀ p, p ∈ ts → Lok (ws ++ [p]) ks) (hmz : ∀ m, m ∈ ms → 0 ≤ m.p.n ∧ m.p.n ≤ 1073741824) (h1 : 1 ≤ ws.length) (h3 : ws.length ≤ 3) (ht2 : ts.length ≤ 2) (hm2 : ms.length ≤ 2) (rn rt : ByteArray) (a1 : Option Addr) (a2 a3 : Nat) (a4 : Option Addr) (a5 a6 : Nat) (a7 : Option Addr) (a8 a9 : Nat) (b1_ : Option Addr) (b2_ b3_ : Nat) (b4_ : Option Addr) (b5_ b6_ : Nat) (w : World)
  (hW : Rd w (.row 48 18 (ws.map encP)) (.slice a1 a2 a3)) (hT : Rd w (.row 48 18 (ts.map encP)) (.slice a4 a5 a6)) (hM : Rd w (.row 78 20 (ms.map encM)) (.slice a7 a8 a9)) (hK : Rd w (.row 66 3 (ks.map encK)) (.slice b1_ b2_ b3_)) (ht : B8.Tab w) :
  Calls Tryz.prog 28 #[.agg #[.string rn, .slice a1 a2 a3, .slice a4 a5 a6, .slice a7 a8 a9, .slice b1_ b2_ b3_, .string rt, .slice b4_ b5_ b6_]] w fun e w' => Pres w' e ws ts ms ks ∧ Below w.heap.size w w' :=
 (zC8 ws ts ms ks hw hl0 hlt hmz h1 h3 ht2 hm2 rn rt a1 a2 a3 a4 a5 a6 a7 a8 a9 b1_ b2_ b3_ b4_ b5_ b6_ w hW hT hM hK ht).mono fun e w' h => ⟨presN h.1, h.2⟩
end Go.Proofs.YtnlmknbhppdliaaGreatDoor.Chk
