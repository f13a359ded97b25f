/-
  A condition, by the reference.
-/
import Derived.Test.YthndlfdbmljkhaaGreatDoorCf
namespace Go.Proofs.YthndlfdbmljkhaaGreatDoor.Chk
open Go.ChangeShapes Go.WideShapes Go.ChangeAt Go.RowKit Go.Maps
set_option linter.unusedVariables false
set_option linter.unusedSimpArgs false
set_option maxRecDepth 20000
theorem cr_of {w : World} {m : Int} {r : Int × Int} {P : Ending → World → Prop} (h : ∀ e w', P e w' → e = .returned (.tuple #[.int .i64 m, .int .i64 r.2]) ∧ Below w.heap.size w w') (hm : r.2 = 0 → m = r.1) : ∀ e w', P e w' → CR w r e w' := fun e w' hp => ⟨m, (h e w' hp).1, hm, (h e w' hp).2⟩
theorem conditionFault_any (ts : List Tp) (kn : List Pt) (own : Tp) (hkn : Known ts kn) : ∀ (n : Nat) (c : Cn) (tv kv fv v : Value) (w : World) (dp : Int), dp = 9 - (n : Int) → n ≤ 8 → Wfc c → Rd w (.row 72 2 (ts.map encY)) tv → Rd w (.row 65 18 (kn.map encP)) kv → Rd w (.row 93 2 (own.f.map encF)) fv → Rd w (.row 63 14 c.sb) v →
    Calls Tryz.prog 122 #[tv, kv, .agg #[.string own.n, fv], cnV c.k v c.l c.r, .int .i64 dp] w (CR w (cdk ts kn own n c)) := by
  intro n
  induction n with
  | zero =>
    intro c tv kv fv v w dp hdp hn8 hw hT hK hF hS
    obtain ⟨c, cs, hcs, hsub⟩ := hw
    rw [hcs] at hS
    obtain ⟨tp, tc, e1, _, _⟩ := rd_row lenY hT
    obtain ⟨kp, kc, e2, _, _⟩ := rd_row lenP hK
    obtain ⟨fp, fc, e3, _, _⟩ := rd_row lenF hF
    obtain ⟨p, cap, e4, _, _⟩ := rd_row lenC hS
    subst e1 e2 e3 e4
    obtain ⟨ck, csb, ⟨lk, lvk, lvi, lvt, lva, lfd⟩, ⟨rk, rvk, rvi, rvt, rva, rfd⟩⟩ := c
    obtain ⟨on, tf⟩ := own
    unfold cdk
    simp only
    by_cases hk : 1 ≤ ck ∧ ck ≤ 7
    · rw [if_pos hk]
      exact (cond_deep on ck cs.length lk lvk lvi rk rvk rvi lvt lva lfd rvt rva rfd tp kp fp p _ tc _ kc _ fc cap dp w hk (by omega)).mono (cr_of (r := (0, 14)) (fun e w' h => h) (fun h => absurd h (by decide)))
    · rw [if_neg hk]
      exact (cond_kind on ck cs.length lk lvk lvi rk rvk rvi lvt lva lfd rvt rva rfd tp kp fp p _ tc _ kc _ fc cap dp w hk).mono (cr_of (r := (0, 3)) (fun e w' h => h) (fun h => absurd h (by decide)))
  | succ n ih =>
    intro c tv kv fv v w dp hdp hn8 hw hT hK hF hS
    obtain ⟨c, cs, hcs, hsub⟩ := hw
    have hlen : c.sb.length = cs.length := by rw [hcs, List.length_map]
    have hss := subs_of hcs
    rw [hcs] at hS
    have hSL : ∀ o W, Below w.heap.size w W → Calls Tryz.prog 125 #[tv, kv, .agg #[.string own.n, fv], opV o] W fun e w' => e = .returned (.tuple #[.int .i64 (sdk ts kn own o).1, .int .i64 (sdk ts kn own o).2]) ∧ Below W.heap.size W w' := fun o W hW => sideKind_any ts kn own o tv kv fv W (hT.later hW) (hK.later hW) (hF.later hW) hkn
    have hIH : ∀ x, x ∈ cs → ∀ W, Below w.heap.size w W → ∀ u, Rd W (.row 63 14 x.sb) u → Calls Tryz.prog 122 #[tv, kv, .agg #[.string own.n, fv], .agg (cnC x.k u x.l x.r).toArray, .int .i64 (dp + 1)] W (CR W (cdk ts kn own n x)) := fun x hx W hW u hu =>
      ih x tv kv fv u W (dp + 1) (by omega) (by omega) (hsub x hx) (hT.later hW) (hK.later hW) (hF.later hW) hu
    obtain ⟨tp, tc, e1, _, _⟩ := rd_row lenY hT
    obtain ⟨kp, kc, e2, _, _⟩ := rd_row lenP hK
    obtain ⟨fp, fc, e3, _, _⟩ := rd_row lenF hF
    obtain ⟨p, cap, e4, _, _⟩ := rd_row lenC hS
    subst e1 e2 e3
    have hS2 := hS
    unfold cdk
    rw [hss, hlen]
    obtain ⟨ck, csb, ⟨lk, lvk, lvi, lvt, lva, lfd⟩, ⟨rk, rvk, rvi, rvt, rva, rfd⟩⟩ := c
    simp only
    have hd : ¬ 8 < dp := by omega
    by_cases hk : 1 ≤ ck ∧ ck ≤ 7
    · rw [if_neg (fun c => c hk)]
      by_cases h3 : 3 < ck
      · rw [if_pos h3]
        subst e4
        by_cases h0 : cs.length = 0
        · rw [if_neg (fun c => c h0)]
          have h1 := hSL ⟨lk, lvk, lvi, lvt, lva, lfd⟩
          have h2 := hSL ⟨rk, rvk, rvi, rvt, rva, rfd⟩
          obtain ⟨⟨am, ae⟩, ha⟩ : ∃ q, sdk ts kn own ⟨lk, lvk, lvi, lvt, lva, lfd⟩ = q := ⟨_, rfl⟩
          obtain ⟨⟨bm, be⟩, hb⟩ : ∃ q, sdk ts kn own ⟨rk, rvk, rvi, rvt, rva, rfd⟩ = q := ⟨_, rfl⟩
          rw [ha] at h1
          rw [hb] at h2
          rw [ha, hb]
          simp only at h1 h2 ⊢
          by_cases c1 : ae = 0
          · rw [if_neg (fun c => c c1)]
            subst c1
            by_cases c2 : be = 0
            · rw [if_neg (fun c => c c2)]
              by_cases c3 : am = bm
              · rw [if_neg (fun c => c c3)]
                exact (cond_good am bm be own.n ck cs.length lk lvk lvi rk rvk rvi lvt lva lfd rvt rva rfd tp kp fp p _ tc _ kc _ fc cap dp w hk hd h3 h0 h1 h2 c2 c3).mono (cr_of (r := (1, 0)) (fun e w' h => h) (fun _ => rfl))
              · rw [if_pos c3]
                exact (cond_type am bm be own.n ck cs.length lk lvk lvi rk rvk rvi lvt lva lfd rvt rva rfd tp kp fp p _ tc _ kc _ fc cap dp w hk hd h3 h0 h1 h2 c2 c3).mono (cr_of (r := (0, 13)) (fun e w' h => h) (fun h => absurd h (by decide)))
            · rw [if_pos c2]
              exact (cond_right am bm be own.n ck cs.length lk lvk lvi rk rvk rvi lvt lva lfd rvt rva rfd tp kp fp p _ tc _ kc _ fc cap dp w hk hd h3 h0 h1 h2 c2).mono (cr_of (r := (0, be)) (fun e w' h => h) (fun h => absurd h c2))
          · rw [if_pos c1]
            exact (cond_left am ae own.n ck cs.length lk lvk lvi rk rvk rvi lvt lva lfd rvt rva rfd tp kp fp p _ tc _ kc _ fc cap dp w hk hd h3 h0 h1 c1).mono (cr_of (r := (0, ae)) (fun e w' h => h) (fun h => absurd h c1))
        · rw [if_pos h0]
          exact (cond_subs own.n ck cs.length lk lvk lvi rk rvk rvi lvt lva lfd rvt rva rfd tp kp fp p _ tc _ kc _ fc cap dp w hk hd h3 h0).mono (cr_of (r := (0, 4)) (fun e w' h => h) (fun h => absurd h (by decide)))
      · rw [if_neg h3]
        by_cases hz : eqz ⟨lk, lvk, lvi, lvt, lva, lfd⟩ = false ∨ eqz ⟨rk, rvk, rvi, rvt, rva, rfd⟩ = false
        · rw [if_pos hz]
          subst e4
          exact (cond_sides own.n ck cs.length lk lvk lvi rk rvk rvi lvt lva lfd rvt rva rfd tp kp fp p _ tc _ kc _ fc cap dp w hk hd h3 hz).mono (cr_of (r := (0, 4)) (fun e w' h => h) (fun h => absurd h (by decide)))
        · rw [if_neg hz]
          have hl : eqz ⟨lk, lvk, lvi, lvt, lva, lfd⟩ = true := by
            cases h9 : eqz ⟨lk, lvk, lvi, lvt, lva, lfd⟩
            · exact absurd (.inl h9) hz
            · rfl
          have hr : eqz ⟨rk, rvk, rvi, rvt, rva, rfd⟩ = true := by
            cases h9 : eqz ⟨rk, rvk, rvi, rvt, rva, rfd⟩
            · exact absurd (.inr h9) hz
            · rfl
          by_cases hc : (ck = 3 ∧ cs.length ≠ 1) ∨ (ck ≠ 3 ∧ cs.length < 2)
          · rw [if_pos hc]
            subst e4
            rcases hc with ⟨d1, d2⟩ | ⟨d1, d2⟩
            · exact (cond_count3 own.n ck cs.length lk lvk lvi rk rvk rvi lvt lva lfd rvt rva rfd tp kp fp p _ tc _ kc _ fc cap dp w hk hd h3 hl hr d1 d2).mono (cr_of (r := (0, 4)) (fun e w' h => h) (fun h => absurd h (by decide)))
            · exact (cond_count2 own.n ck cs.length lk lvk lvi rk rvk rvi lvt lva lfd rvt rva rfd tp kp fp p _ tc _ kc _ fc cap dp w hk hd h3 hl hr d1 d2).mono (cr_of (r := (0, 4)) (fun e w' h => h) (fun h => absurd h (by decide)))
          · rw [if_neg hc]
            exact cond_group (cdk ts kn own n) (cdk_range ts kn own n) cs own.n ck lk lvk lvi rk rvk rvi lvt lva lfd rvt rva rfd tp kp fp v _ tc _ kc _ fc dp w hk hd (by omega) h3 hl hr hc hS2 hIH
    · rw [if_pos hk]
      subst e4
      exact (cond_kind own.n ck cs.length lk lvk lvi rk rvk rvi lvt lva lfd rvt rva rfd tp kp fp p _ tc _ kc _ fc cap dp w hk).mono (cr_of (r := (0, 3)) (fun e w' h => h) (fun h => absurd h (by decide)))
end Go.Proofs.YthndlfdbmljkhaaGreatDoor.Chk
