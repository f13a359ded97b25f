/-
  Options: the program.
-/
import Derived.Test.YtgikaheojcpmpabDoorO5
import Derived.Test.YtgikaheojcpmpabDoorY
import Derived.Test.YtgikaheojcpmpabDoorJ2
import Derived.Lib.LazyBuf
namespace Go.Proofs.YtgikaheojcpmpabDoor
open Go.ChangeShapes Go.WideShapes Go.ChangeAt Go.RowKit Go.Maps
set_option linter.unusedVariables false
set_option linter.unusedSimpArgs false
set_option maxRecDepth 20000
/-- An option: relation, low, high. -/
structure Op3 where
  r : Int
  lo : Int
  hi : Int
/-- A list of options in memory. -/
def OptsAt (w : World) (v : Value) (n : Nat) (o : Nat → Op3) : Prop :=
  ∃ p cap, v = .slice p n cap ∧ n ≤ cap ∧ cap ≤ maxLen ∧ (0 < n → ∃ g off, p = some ⟨g, off, none⟩ ∧ ∀ i, i < n → w.cell? ⟨g, off + i * 3, none⟩ = some (.int .i64 (o i).r) ∧ w.cell? ⟨g, off + i * 3 + 1, none⟩ = some (.int .i64 (o i).lo) ∧ w.cell? ⟨g, off + i * 3 + 2, none⟩ = some (.int .i64 (o i).hi))
theorem OptsAt.later {w w' : World} {v : Value} {n : Nat} {o : Nat → Op3} (h : OptsAt w v n o) (hb : Below w.heap.size w w') : OptsAt w' v n o := by
  obtain ⟨p, cap, rfl, h1, h2, h3⟩ := h
  refine ⟨p, cap, rfl, h1, h2, fun h0 => ?_⟩
  obtain ⟨g, off, rfl, hc⟩ := h3 h0
  refine ⟨g, off, rfl, fun i hi => ?_⟩
  obtain ⟨e1, e2, e3⟩ := hc i hi
  exact ⟨(hb.cell (p := ⟨g, off + i * 3, none⟩) (World.block_lt_of_cell? _ _ e1)).trans e1, (hb.cell (p := ⟨g, off + i * 3 + 1, none⟩) (World.block_lt_of_cell? _ _ e2)).trans e2, (hb.cell (p := ⟨g, off + i * 3 + 2, none⟩) (World.block_lt_of_cell? _ _ e3)).trans e3⟩
/-- What is wrong with the first i options. -/
def opE (o : Nat → Op3) : Nat → Int
  | 0 => 0
  | i + 1 => if opE o i ≠ 0 then opE o i else optE (o i).r (o i).lo (o i).hi
theorem opE_up {o : Nat → Op3} {i : Nat} (h : opE o i ≠ 0) : ∀ j, i ≤ j → opE o j = opE o i
  | 0, hj => by obtain rfl : i = 0 := by omega
                rfl
  | j + 1, hj => by
    by_cases c : i = j + 1
    · subst c; rfl
    · have := opE_up h j (by omega)
      rw [opE, if_pos (by rw [this]; exact h), this]
theorem opE_all {o : Nat → Op3} : ∀ {n : Nat}, opE o n = 0 → ∀ i, i < n → optE (o i).r (o i).lo (o i).hi = 0
  | n + 1, h, i, hi => by
    have h0 : opE o n = 0 := by
      by_cases c : opE o n = 0
      · exact c
      · rw [opE, if_pos c] at h; exact absurd h c
    rw [opE, if_neg (by rw [h0]; decide)] at h
    by_cases c : i = n
    · subst c; exact h
    · exact opE_all h0 i (by omega)
/-- The bounds of one option. -/
def tzO (o : Op3) : Mx := toldZ (upv o.r.toNat) (upm o.r.toNat) o.lo o.hi
/-- Can an option be? -/
def canB (o : Op3) : Bool := !ngb (fw (tzO o) 4) 4
/-- The bounds of the first i options of which one holds. -/
def opR (o : Nat → Op3) : Nat → Option Mx
  | 0 => none
  | i + 1 => if canB (o i) = true then (match opR o i with
      | none => some (fw (tzO (o i)) 4)
      | some A => some (fun a b => max (A a b) (fw (tzO (o i)) 4 a b))) else opR o i
theorem gd_iff {n : Nat} {m : Mx} (hd : ∀ i, i < n → m i i = 0) : Gd n n m ↔ ngb (fw m n) n = false := by
  constructor
  · intro h
    exact ngb_not fun i hi => by rw [h n (Nat.le_refl _) i hi]; exact Int.le_refl _
  · intro h s hs i hi
    have h1 := ngb_false h i hi
    have h2 := fw_mono m hs i i
    have h3 := fw_mono m (Nat.zero_le s) i i
    have h4 : fw m 0 i i = 0 := hd i hi
    omega
theorem am_diag {pm : Nat → Nat} {Z : Mx} {p q : Nat} {m : Int} (h : ∀ i, i < 4 → Z i i = 0) (hpq : pm p ≠ pm q) : ∀ i, i < 4 → am pm Z p q m i i = 0 := fun i hi => by
  unfold am upd
  rw [if_neg (by omega)]
  exact h i hi
theorem am_bnd {pm : Nat → Nat} {Z : Mx} {p q : Nat} {m : Int} (h : Bnd 4 1073741824 Z) (h1 : -1073741824 ≤ m) (h2 : m ≤ 1073741824) (hp : pm p < 4) (hq : pm q < 4) : Bnd 4 1073741824 (am pm Z p q m) := fun a b ha hb => by
  unfold am upd
  split
  · have := h (pm p) (pm q) hp hq
    omega
  · exact h a b ha hb
theorem fre_diag : ∀ i, i < 4 → fre i i = 0 := fun i _ => by simp [fre]
theorem fre_bnd : Bnd 4 1073741824 fre := fun a b _ _ => by unfold fre; split <;> omega
def OkZ (Z : Mx) : Prop := (∀ i, i < 4 → Z i i = 0) ∧ Bnd 4 1073741824 Z
theorem told_ok {v : Nat} {pm : Nat → Nat} {lo hi : Int} (hv : v = 1 ∨ v = 3 ∨ v = 5 ∨ v = 7 ∨ v = 9 ∨ v = 11 ∨ v = 13) (hlt : ∀ k, k < 4 → pm k < 4) (hne : ∀ p q, p < 4 → q < 4 → p ≠ q → pm p ≠ pm q) (h1 : 0 ≤ lo) (h2 : lo ≤ 1073741824) (h3 : hi = -1 ∨ (lo ≤ hi ∧ hi ≤ 1073741824)) : OkZ (toldZ v pm lo hi) := by
  have D : ∀ (Z : Mx) (p q : Nat) (m : Int), p < 4 → q < 4 → p ≠ q → -1073741824 ≤ m → m ≤ 1073741824 → OkZ Z → OkZ (am pm Z p q m) := fun Z p q m hp hq hpq a b h => ⟨am_diag h.1 (hne p q hp hq hpq), am_bnd h.2 a b (hlt p hp) (hlt q hq)⟩
  have F : OkZ fre := ⟨fre_diag, fre_bnd⟩
  unfold toldZ
  rcases hv with rfl | rfl | rfl | rfl | rfl | rfl | rfl <;> split <;> simp only [tellZ, apF, apT] <;> repeat (first | exact F | (refine D _ _ _ _ (by decide) (by decide) (by decide) (by omega) (by omega) ?_))
theorem pmI_ne : ∀ p q, p < 4 → q < 4 → p ≠ q → pmI p ≠ pmI q := fun p q _ _ h => h
theorem pmS_ne : ∀ p q, p < 4 → q < 4 → p ≠ q → pmS p ≠ pmS q := fun p q hp hq h => by unfold pmS; omega
theorem tz_ok {o : Op3} (h : optE o.r o.lo o.hi = 0) : OkZ (tzO o) := by
  obtain ⟨h1, h2, h3, h4, h5⟩ := optE_ok h
  unfold tzO
  obtain ⟨rn, hrn⟩ : ∃ rn : Nat, o.r = (rn : Int) := ⟨o.r.toNat, by omega⟩
  rw [hrn, show ((rn : Int)).toNat = rn by omega]
  have b1 : 1 ≤ rn := by omega
  have b2 : rn ≤ 13 := by omega
  unfold upv upm
  by_cases c : rn % 2 = 0
  · rw [if_pos c, if_pos c]
    exact told_ok (by omega) pmS_lt pmS_ne h3 h4 h5
  · rw [if_neg c, if_neg c]
    exact told_ok (by omega) pmI_lt pmI_ne h3 h4 h5
/-- What Options answers. -/
def Ores (w w' : World) (e : Ending) (n : Nat) (o : Nat → Op3) : Prop :=
  (opE o n ≠ 0 ∧ e = .returned (.tuple #[.slice none 0 0, .int .i64 (opE o n)])) ∨ (opE o n = 0 ∧ opR o n = none ∧ e = .returned (.tuple #[.slice none 0 0, .int .i64 16])) ∨
  (opE o n = 0 ∧ ∃ R V, opR o n = some R ∧ e = .returned (.tuple #[V, .int .i64 0]) ∧ New w w' V 4 (fun _ => 4) R)
/-- What is kept while options are joined. -/
def Kept (w wr : World) (V : Value) (r : Option Mx) : Prop :=
  match r with
  | none => V = .slice none 0 0
  | some R => New w wr V 4 (fun _ => 4) R
theorem Kept.later {w wr w' : World} {V : Value} {r : Option Mx} (h : Kept w wr V r) (hb : Below wr.heap.size wr w') : Kept w w' V r := by
  cases r with
  | none => exact h
  | some R => exact New.later (h : New w wr V 4 (fun _ => 4) R) hb
theorem own_of4 {Z : Mx} (h : OkZ Z) : own 4 (fun _ => 4) Z = 0 := by
  have hb : Bnd 4 2147483648 Z := h.2.mono (by decide)
  have hR : ∀ j, j ≤ 4 → owR 4 Z j = 0 := by
    intro j
    induction j with
    | zero => intro _; rfl
    | succ j ih => intro hj; rw [owR, ih (by omega), if_neg (by decide), if_neg (by rw [h.1 j (by omega)]; decide), if_pos (wth_of fun k hk => hb j k (by omega) hk)]
  unfold own
  rw [chk_sq (by decide) (fun _ _ => rfl) (fun i hi k hk => by have := hb i k hi hk; unfold inb; omega), if_neg (by decide), hR 4 (Nat.le_refl _)]
theorem new_shape {w w' : World} {V : Value} {R : Mx} (h : New w w' V 4 (fun _ => 4) R) : ∃ b cap, V = .slice (some ⟨b, 0, none⟩) 4 cap := by
  obtain ⟨p, cap, b, G, C, rfl, h1, _⟩ := h
  rw [h1 (by decide)]
  exact ⟨b, cap, rfl⟩
set_option maxHeartbeats 16000000 in
theorem options_any (v : Value) (n : Nat) (o : Nat → Op3) (w : World) (h : OptsAt w v n o) (ht : Tab w) :
    Calls Tryd.prog 6 #[v] w fun e w' => Ores w w' e n o ∧ Below w.heap.size w w' := by
  have HOP := hid h
  have HT := hid ht
  obtain ⟨p, cap, rfl, hl, hc, hp⟩ := h
  have hmx : (n : Int) ≤ 9223372036854775807 := by unfold maxLen at hc; omega
  have HP : Hid (0 < n → ∃ g off, p = some ⟨g, off, none⟩ ∧ ∀ i, i < n → w.cell? ⟨g, off + i * 3, none⟩ = some (.int .i64 (o i).r) ∧ w.cell? ⟨g, off + i * 3 + 1, none⟩ = some (.int .i64 (o i).lo) ∧ w.cell? ⟨g, off + i * 3 + 2, none⟩ = some (.int .i64 (o i).hi)) := hp
  have E1 : ∀ w, (binOp .eql 27 (.slice none 0 0) (.slice none 0 0)).run Tryd.prog w = .ok (.bool true) w := fun w => run_eql_slice_nil w _ _ _ _ _ Tryd.underlying27
  have E2 : ∀ b cap w, (binOp .eql 27 (.slice (some ⟨b, 0, none⟩) 4 cap) (.slice none 0 0)).run Tryd.prog w = .ok (.bool false) w := fun b cap w => run_eql_slice_nil w _ _ _ _ _ Tryd.underlying27
  clear hp hl hc ht
  go_enter Tryd.func6, Tryd.ntmps6
  go_wp2_with fail
  go_loopg [14] n (fun gg io wr => ∃ i : Nat, i ≤ n ∧ gg = n - i ∧ io = .int .i64 (i : Nat) ∧ opE o i = 0 ∧ Below w.heap.size w wr)
  case atStart => exact ⟨0, by omega, by omega, rfl, rfl, Below.refl _ _⟩
  case round =>
    obtain ⟨i, hi, rfl, rfl, hf, hBr⟩ := hrel
    have HF := hid hf
    have HBR := hid hBr
    clear hf
    have i1 : (0 : Int) ≤ (i : Int) := by omega
    by_cases hin : i < n
    · have i2 : (i : Int) < (n : Int) := by omega
      obtain ⟨g, off, rfl, hrd⟩ := HP.out (by omega)
      obtain ⟨e1, e2, e3⟩ := hrd i hin
      have a1 := (hBr.cell (p := ⟨g, off + i * 3, none⟩) (World.block_lt_of_cell? _ _ e1)).trans e1
      have a2 := (hBr.cell (p := ⟨g, off + i * 3 + 1, none⟩) (World.block_lt_of_cell? _ _ e2)).trans e2
      have a3 := (hBr.cell (p := ⟨g, off + i * 3 + 2, none⟩) (World.block_lt_of_cell? _ _ e3)).trans e3
      have HS := hid (show opE o (i + 1) = optE (o i).r (o i).lo (o i).hi by rw [opE, HF.out, if_neg (by decide)])
      have HUP : Hid (∀ x, opE o (i + 1) = x → x ≠ 0 → opE o n = x) := fun x hx h0 => by rw [opE_up (by rw [hx]; exact h0) n (by omega), hx]
      generalize (o i).r = r at *
      generalize (o i).lo = lo at *
      generalize (o i).hi = hh at *
      obtain ⟨c, hc⟩ : ∃ c, optE r lo hh = c := ⟨_, rfl⟩
      have HC := hid hc
      rw [hc] at HS
      clear hrd e1 e2 e3 hBr hc
      go_wp2_with fail
      refine (opt_any r lo hh _).mono ?_
      rw [HC.out]
      rintro e w2 ⟨rfl, hB2⟩
      have HB2 := hid (below_then (HBR.out.alloc HBR.out.size _) hB2 (Nat.le_refl _))
      clear hB2
      by_cases h0 : c = 0
      · subst h0
        go_wp2_with fail
        go_roundg (n - (i + 1))
        case rel => exact ⟨i + 1, by omega, rfl, by go_num, HS.out, HB2.out⟩
        case measure => omega
      · have d : (c != 0) = true := by simpa using h0
        have HR := hid (HUP.out c HS.out h0)
        have H0 := hid h0
        clear h0
        go_wp2_with fail
        go_ret2
        exact ⟨.inl ⟨by rw [HR.out]; exact H0.out, by rw [HR.out]; rfl⟩, HB2.out⟩
    · obtain rfl : i = n := by omega
      have HAL := hid (opE_all HF.out)
      obtain ⟨wo, hwo⟩ : ∃ wo, wo = wr := ⟨_, rfl⟩
      rw [← hwo] at HBR ⊢
      clear hBr hwo
      go_wp2_with fail
      go_loopg [7, 26] i (fun gg ao jo wr => ∃ j : Nat, j ≤ i ∧ gg = i - j ∧ jo = .int .i64 (j : Nat) ∧ Kept w wr ao (opR o j) ∧ Below w.heap.size w wr)
      case atStart => exact ⟨0, by omega, by omega, rfl, rfl, HBR.out⟩
      case round =>
        obtain ⟨j, hj, rfl, rfl, hK, hBr⟩ := hrel
        clear HBR
        have HBR := hid hBr
        have HK := hid hK
        clear hK
        have j1 : (0 : Int) ≤ (j : Int) := by omega
        by_cases hjn : j < i
        · have j2 : (j : Int) < (i : Int) := by omega
          obtain ⟨g, off, rfl, hrd⟩ := HP.out (by omega)
          obtain ⟨e1, e2, e3⟩ := hrd j hjn
          have a1 := (hBr.cell (p := ⟨g, off + j * 3, none⟩) (World.block_lt_of_cell? _ _ e1)).trans e1
          have a2 := (hBr.cell (p := ⟨g, off + j * 3 + 1, none⟩) (World.block_lt_of_cell? _ _ e2)).trans e2
          have a3 := (hBr.cell (p := ⟨g, off + j * 3 + 2, none⟩) (World.block_lt_of_cell? _ _ e3)).trans e3
          have hok := HAL.out j hjn
          have HZ := hid (tz_ok hok)
          obtain ⟨b1, b2, b3, b4, b5⟩ := optE_ok hok
          obtain ⟨rn, hrn⟩ : ∃ rn : Nat, (o j).r = (rn : Int) := ⟨(o j).r.toNat, by omega⟩
          have HTZ := hid (show tzO (o j) = toldZ (upv rn) (upm rn) (o j).lo (o j).hi by unfold tzO; rw [hrn, show ((rn : Int)).toNat = rn by omega])
          have HRB := hid (show 1 ≤ rn ∧ rn ≤ 13 by omega)
          have HLB := hid (And.intro b3 b4)
          rw [hrn] at a1
          have HOW := hid (own_of4 HZ.out)
          have HGI := hid (gd_iff (n := 4) HZ.out.1)
          have HNX := hid (show opR o (j + 1) = if canB (o j) = true then (match opR o j with | none => some (fw (tzO (o j)) 4) | some A => some (fun a b => max (A a b) (fw (tzO (o j)) 4 a b))) else opR o j from rfl)
          have HCB := hid (show canB (o j) = !ngb (fw (tzO (o j)) 4) 4 from rfl)
          generalize (o j).lo = lo at *
          generalize (o j).hi = hh at *
          generalize tzO (o j) = Z at *
          generalize canB (o j) = cb at *
          clear hrd e1 e2 e3 hok b1 b2 b3 b4 b5 hrn
          have HTB := hid ((HT.out.later hBr).later (below_new wr (.cells #[.int .i64 (rn : Int), .int .i64 lo, .int .i64 hh] 23)))
          have HBA := hid (HBR.out.alloc HBR.out.size (.cells #[.int .i64 (rn : Int), .int .i64 lo, .int .i64 hh] 23))
          have HBN := hid (below_new wr (.cells #[.int .i64 (rn : Int), .int .i64 lo, .int .i64 hh] 23))
          clear hBr
          go_wp2_with fail
          refine (told_any rn lo hh _ HTB.out HRB.out.1 HRB.out.2 HLB.out.1 HLB.out.2).mono ?_
          rw [← HTZ.out]
          rintro e w2 ⟨⟨V1, rfl, hN1⟩, hB2⟩
          have HN1 := hid hN1.mat
          have HB2 := hid (below_then HBA.out hB2 (Nat.le_refl _))
          have HD2 := hid (below_then HBN.out hB2 (Nat.le_refl _))
          clear hN1 hB2
          go_wp2_with fail
          refine (closeP_any V1 4 (fun _ => 4) Z _ HN1.out HOW.out).mono ?_
          rintro e w3 ⟨hC, hB3⟩
          have HB3 := hid (below_then HB2.out hB3 (Nat.le_refl _))
          have HD3 := hid (below_then HD2.out hB3 (Nat.le_refl _))
          rcases hC with ⟨hg, V2, rfl, hN2⟩ | ⟨hg, rfl⟩
          · have HCT : Hid (cb = true) := by show cb = true; rw [HCB.out, HGI.out.1 hg]; rfl
            have HN2 := hid (hN2.from (w0 := w) HB2.out.size)
            obtain ⟨bb, cc, rfl⟩ := new_shape hN2
            clear hg hN2 hB3
            cases hR : opR o j with
            | none =>
              have hV := HK.out
              rw [hR] at hV
              obtain rfl : _ = Value.slice none 0 0 := hV
              have HR := hid hR
              clear hR HK
              go_wp2_with fail
              refine (joinOptions_any _ _ 4 (fun _ => 4) (fun _ => 4) (fw Z 4) (fw Z 4) _ HN2.out.mat HN2.out.mat (fun _ _ => rfl) (fun _ _ => rfl) (by decide)).mono ?_
              rintro e w4 ⟨⟨V3, rfl, hN3⟩, hB4⟩
              have HN3 := hid ((hN3.from (w0 := w) HB3.out.size).congr (M := fun _ => 4) (Y := fw Z 4) (fun _ _ => rfl) (fun a _ b _ => by show max (fw Z 4 a b) (fw Z 4 a b) = _; omega))
              have HB4 := hid (below_then HB3.out hB4 (Nat.le_refl _))
              clear hN3 hB4
              go_wp2_with fail
              go_roundg (i - (j + 1))
              case rel => exact ⟨j + 1, by omega, rfl, by go_num, by rw [HNX.out, if_pos HCT.out, HR.out]; exact HN3.out, HB4.out⟩
              case measure => omega
            | some R =>
              have hV := HK.out
              rw [hR] at hV
              obtain ⟨b0, c0, rfl⟩ := new_shape hV
              have HV : Hid (New w wr (.slice (some ⟨b0, 0, none⟩) 4 c0) 4 (fun _ => 4) R) := hV
              have HR := hid hR
              clear hR HK hV
              go_wp2_with fail
              refine (joinOptions_any _ _ 4 (fun _ => 4) (fun _ => 4) R (fw Z 4) _ (HV.out.mat.later HD3.out) HN2.out.mat (fun _ _ => rfl) (fun _ _ => rfl) (by decide)).mono ?_
              rintro e w4 ⟨⟨V3, rfl, hN3⟩, hB4⟩
              have HN3 := hid (hN3.from (w0 := w) HB3.out.size)
              have HB4 := hid (below_then HB3.out hB4 (Nat.le_refl _))
              clear hN3 hB4
              go_wp2_with fail
              go_roundg (i - (j + 1))
              case rel => exact ⟨j + 1, by omega, rfl, by go_num, by rw [HNX.out, if_pos HCT.out, HR.out]; exact HN3.out, HB4.out⟩
              case measure => omega
          · have HCF : Hid (cb = false) := by
              show cb = false
              rw [HCB.out]
              cases hn : ngb (fw Z 4) 4 with
              | true => rfl
              | false => exact absurd (HGI.out.2 hn) hg
            have HK2 : Hid (Kept w w3 _ (opR o j)) := HK.out.later HD3.out
            clear hg hB3
            go_wp2_with fail
            go_roundg (i - (j + 1))
            case rel => exact ⟨j + 1, by omega, rfl, by go_num, by rw [HNX.out, if_neg (by rw [HCF.out]; decide)]; exact HK2.out, HB3.out⟩
            case measure => omega
        · obtain rfl : j = i := by omega
          cases hR : opR o j with
          | none =>
            have hV := HK.out
            rw [hR] at hV
            obtain rfl : _ = Value.slice none 0 0 := hV
            have HR := hid hR
            clear hR hBr HK
            go_wp2_with fail
            go_ret2
            exact ⟨.inr (.inl ⟨HF.out, HR.out, rfl⟩), HBR.out⟩
          | some R =>
            have hV := HK.out
            rw [hR] at hV
            obtain ⟨b, cap2, rfl⟩ := new_shape hV
            have HV : Hid (New w wr (.slice (some ⟨b, 0, none⟩) 4 cap2) 4 (fun _ => 4) R) := hV
            have HR := hid hR
            clear hR hBr HK hV
            go_wp2_with fail
            go_ret2
            exact ⟨.inr (.inr ⟨HF.out, R, _, HR.out, rfl, HV.out⟩), HBR.out⟩
end Go.Proofs.YtgikaheojcpmpabDoor
