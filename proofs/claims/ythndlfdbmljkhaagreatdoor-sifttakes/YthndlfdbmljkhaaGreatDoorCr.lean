/-
  A rule that is wrong at once, by the reference; every rule. A book, by the reference.
-/
import Derived.Test.YthndlfdbmljkhaaGreatDoorCq
namespace Go.Proofs.YthndlfdbmljkhaaGreatDoor.Chk
open Go.ChangeShapes Go.WideShapes Go.ChangeAt Go.RowKit Go.Maps
set_option linter.unusedVariables false
set_option linter.unusedSimpArgs false
set_option maxRecDepth 20000
set_option maxHeartbeats 64000000 in
theorem ruleFault_name (ts : List Tp) (r : Rl) (hwf : (∀ t, t ∈ r.w → Wfc t.c) ∧ (∀ t, t ∈ r.t → Wfc t.c) ∧ (∀ m, m ∈ r.m → Wfc m.p.c)) (tv u1 u2 u3 u4 u5 : Value) (w : World) (hT : Rd w (.row 72 2 (ts.map encY)) tv) (h1 : Rd w (.row 65 18 (r.w.map encP)) u1) (h2 : Rd w (.row 65 18 (r.t.map encP)) u2) (h3 : Rd w (.row 68 20 (r.m.map encM)) u3) (h4 : Rd w (.row 103 3 (r.k.map encK)) u4) (h5 : Rd w (.row 61 6 (r.e.v.map encO)) u5) (E0 : Int) (hf0 : frn r.n = E0) (hsz : E0 ≠ 0) :
    Calls Tryz.prog 36 #[tv, .agg #[.string r.n, u1, u2, u3, u4, .string r.e.ty, u5]] w fun e w' => e = .returned (.int .i64 E0) ∧ Below w.heap.size w w' := by
  obtain ⟨rn, ws, ns, ms, ks, ⟨ety, vs⟩⟩ := r
  simp only at hwf h1 h2 h3 h4 h5 hf0 hsz ⊢
  have HRT := hid hT
  have HR1 := hid h1
  have HR2 := hid h2
  have HR5 := hid h5
  obtain ⟨tp, tc, e0, m0, a0⟩ := rd_row lenY hT
  obtain ⟨q1, j1, e1, m1, a1⟩ := rd_row lenP h1
  obtain ⟨q2, j2, e2, m2, a2⟩ := rd_row lenP h2
  obtain ⟨q3, j3, e3, m3, a3⟩ := rd_row lenM h3
  obtain ⟨q4, j4, e4, m4, a4⟩ := rd_row lenK h4
  obtain ⟨q5, j5, e5, m5, a5⟩ := rd_row lenO h5
  subst e0 e1 e2 e3 e4 e5
  have hc1 := rd_cap h1
  obtain ⟨nt, hnt⟩ : ∃ l, ts.length = l := ⟨_, rfl⟩
  obtain ⟨l1, hl1⟩ : ∃ l, ws.length = l := ⟨_, rfl⟩
  obtain ⟨l2, hl2⟩ : ∃ l, ns.length = l := ⟨_, rfl⟩
  obtain ⟨l3, hl3⟩ : ∃ l, ms.length = l := ⟨_, rfl⟩
  obtain ⟨l4, hl4⟩ : ∃ l, ks.length = l := ⟨_, rfl⟩
  obtain ⟨l5, hl5⟩ : ∃ l, vs.length = l := ⟨_, rfl⟩
  rw [hnt] at HRT
  rw [hl1] at HR1 hc1
  rw [hl2] at HR2
  rw [hl5] at HR5
  rw [hnt, hl1, hl2, hl3, hl4, hl5]
  have HC1 := hid hc1
  have HNT := hid hnt
  have HN1 := hid hl1
  have HN2 := hid hl2
  have HN3 := hid hl3
  have HN4 := hid hl4
  have HWF := hid hwf
  have HA0 : Hid (At encY 2 w tp ts) := a0
  have HA1 : Hid (At encP 18 w q1 ws) := a1
  have HA2 : Hid (At encP 18 w q2 ns) := a2
  have HA3 : Hid (At encM 20 w q3 ms) := a3
  have HA4 : Hid (At encK 3 w q4 ks) := a4
  have HT : Hid (BlkT w (w.alloc (.cells [.string rn, (.slice q1 l1 j1), (.slice q2 l2 j2), (.slice q3 l3 j3), (.slice q4 l4 j4), .string ety, (.slice q5 l5 j5)].toArray 49)) [.string rn, (.slice q1 l1 j1), (.slice q2 l2 j2), (.slice q3 l3 j3), (.slice q4 l4 j4), .string ety, (.slice q5 l5 j5)] 49) := BlkT.start w _ _
  have HFN : Hid (∀ W, Calls Tryz.prog 72 #[.string rn] W fun e w' => e = .returned (.int .i64 E0) ∧ Below W.heap.size W w') := fun W => by rw [← hf0]; exact freeName_any rn W
  have d0 : (E0 == 0) = false := by simpa using hsz
  have HIN := HFN
  have cs : ∀ W, BlkT w W [.string rn, (.slice q1 l1 j1), (.slice q2 l2 j2), (.slice q3 l3 j3), (.slice q4 l4 j4), .string ety, (.slice q5 l5 j5)] 49 → W.cell? ⟨w.heap.size, 1, none⟩ = some (.slice q1 l1 j1) ∧ W.cell? ⟨w.heap.size, 2, none⟩ = some (.slice q2 l2 j2) ∧ W.cell? ⟨w.heap.size, 3, none⟩ = some (.slice q3 l3 j3) ∧ W.cell? ⟨w.heap.size, 4, none⟩ = some (.slice q4 l4 j4) := fun W h => ⟨h.c 1, h.c 2, h.c 3, h.c 4⟩
  have HCS := hid cs
  clear cs hT h1 h2 h3 h4 h5 a0 a1 a2 a3 a4 a5 hnt hl1 hl2 hl3 hl4 hl5 hf0 hsz hwf hc1
  go_enter Tryz.func36, Tryz.ntmps36
  go_upto_block 0 with (first
    | (go_at_call 17; refine (HIN.out _).mono ?_; rintro e w' ⟨rfl, rfl⟩)
    | (go_at_call 72; refine (HFN.out _).mono ?_; rintro e w2 ⟨rfl, hb_⟩; have HT2 : Hid (BlkT w w2 [.string rn, (.slice q1 l1 j1), (.slice q2 l2 j2), (.slice q3 l3 j3), (.slice q4 l4 j4), .string ety, (.slice q5 l5 j5)] 49) := HT.out.next hb_; obtain ⟨g1, g2, g3, g4⟩ := HCS.out _ HT2.out; clear hb_))
  clear HT g1 g2 g3 g4
  have HT := HT2
  clear HT2
  go_upto_block 0 with fail
  go_cut [5, 7] from 42 to 73 (fun e _ wr => e = .int .i64 E0 ∧ BlkT w wr [.string rn, (.slice q1 l1 j1), (.slice q2 l2 j2), (.slice q3 l3 j3), (.slice q4 l4 j4), .string ety, (.slice q5 l5 j5)] 49)
  case first =>
    go_wp2_with fail
    go_loopg [5, 7] 1 (fun gg e i wr => gg = 1 ∧ e = .int .i64 E0 ∧ i = .int .i64 0 ∧ BlkT w wr [.string rn, (.slice q1 l1 j1), (.slice q2 l2 j2), (.slice q3 l3 j3), (.slice q4 l4 j4), .string ety, (.slice q5 l5 j5)] 49)
    case atStart => exact ⟨rfl, rfl, rfl, HT.out⟩
    case round =>
      obtain ⟨rfl, rfl, rfl, hTr⟩ := hrel
      have HT2 := hid hTr
      have a1 : wr.cell? ⟨w.heap.size, 1, none⟩ = some (.slice q1 l1 j1) := hTr.c 1
      clear hTr
      by_cases hlt : 0 < l1
      · have i2 : (0 : Int) < (l1 : Int) := by omega
        go_wp2_with fail
        go_meet
        case rel => exact ⟨rfl, HT2.out⟩
      · first
        | (exfalso; omega)
        | (obtain rfl : l1 = 0 := by omega
           go_wp2_with fail
           go_meet
           case rel => exact ⟨rfl, HT2.out⟩)
  case rest =>
    obtain ⟨rfl, hT9⟩ := hcut
    clear HT
    have HT := hid hT9
    clear hT9
    go_upto_block 2 with fail
    go_cut [5, 8] from 74 to 103 (fun e _ wr => e = .int .i64 E0 ∧ BlkT w wr [.string rn, (.slice q1 l1 j1), (.slice q2 l2 j2), (.slice q3 l3 j3), (.slice q4 l4 j4), .string ety, (.slice q5 l5 j5)] 49)
    case first =>
      go_wp2_with fail
      go_loopg [5, 8] 1 (fun gg e i wr => gg = 1 ∧ e = .int .i64 E0 ∧ i = .int .i64 0 ∧ BlkT w wr [.string rn, (.slice q1 l1 j1), (.slice q2 l2 j2), (.slice q3 l3 j3), (.slice q4 l4 j4), .string ety, (.slice q5 l5 j5)] 49)
      case atStart => exact ⟨rfl, rfl, rfl, HT.out⟩
      case round =>
        obtain ⟨rfl, rfl, rfl, hTr⟩ := hrel
        have HT2 := hid hTr
        have a1 : wr.cell? ⟨w.heap.size, 2, none⟩ = some (.slice q2 l2 j2) := hTr.c 2
        clear hTr
        by_cases hlt : 0 < l2
        · have i2 : (0 : Int) < (l2 : Int) := by omega
          go_wp2_with fail
          go_meet
          case rel => exact ⟨rfl, HT2.out⟩
        · first
          | (exfalso; omega)
          | (obtain rfl : l2 = 0 := by omega
             go_wp2_with fail
             go_meet
             case rel => exact ⟨rfl, HT2.out⟩)
    case rest =>
      obtain ⟨rfl, hT9⟩ := hcut
      clear HT
      have HT := hid hT9
      clear hT9
      go_upto_block 4 with fail
      go_cut [5, 9] from 104 to 169 (fun e _ wr => e = .int .i64 E0 ∧ BlkT w wr [.string rn, (.slice q1 l1 j1), (.slice q2 l2 j2), (.slice q3 l3 j3), (.slice q4 l4 j4), .string ety, (.slice q5 l5 j5)] 49)
      case first =>
        go_wp2_with fail
        go_loopg [5, 9] 1 (fun gg e i wr => gg = 1 ∧ e = .int .i64 E0 ∧ i = .int .i64 0 ∧ BlkT w wr [.string rn, (.slice q1 l1 j1), (.slice q2 l2 j2), (.slice q3 l3 j3), (.slice q4 l4 j4), .string ety, (.slice q5 l5 j5)] 49)
        case atStart => exact ⟨rfl, rfl, rfl, HT.out⟩
        case round =>
          obtain ⟨rfl, rfl, rfl, hTr⟩ := hrel
          have HT2 := hid hTr
          have a1 : wr.cell? ⟨w.heap.size, 3, none⟩ = some (.slice q3 l3 j3) := hTr.c 3
          clear hTr
          by_cases hlt : 0 < l3
          · have i2 : (0 : Int) < (l3 : Int) := by omega
            go_wp2_with fail
            go_meet
            case rel => exact ⟨rfl, HT2.out⟩
          · first
            | (exfalso; omega)
            | (obtain rfl : l3 = 0 := by omega
               go_wp2_with fail
               go_meet
               case rel => exact ⟨rfl, HT2.out⟩)
      case rest =>
        obtain ⟨rfl, hT9⟩ := hcut
        clear HT
        have HT := hid hT9
        clear hT9
        go_upto_block 6 with fail
        go_cut [5, 11] from 170 to 187 (fun e _ wr => e = .int .i64 E0 ∧ BlkT w wr [.string rn, (.slice q1 l1 j1), (.slice q2 l2 j2), (.slice q3 l3 j3), (.slice q4 l4 j4), .string ety, (.slice q5 l5 j5)] 49)
        case first =>
          go_wp2_with fail
          go_loopg [5, 11] 1 (fun gg e i wr => gg = 1 ∧ e = .int .i64 E0 ∧ i = .int .i64 0 ∧ BlkT w wr [.string rn, (.slice q1 l1 j1), (.slice q2 l2 j2), (.slice q3 l3 j3), (.slice q4 l4 j4), .string ety, (.slice q5 l5 j5)] 49)
          case atStart => exact ⟨rfl, rfl, rfl, HT.out⟩
          case round =>
            obtain ⟨rfl, rfl, rfl, hTr⟩ := hrel
            have HT2 := hid hTr
            have a1 : wr.cell? ⟨w.heap.size, 4, none⟩ = some (.slice q4 l4 j4) := hTr.c 4
            clear hTr
            by_cases hlt : 0 < l4
            · have i2 : (0 : Int) < (l4 : Int) := by omega
              go_wp2_with fail
              go_meet
              case rel => exact ⟨rfl, HT2.out⟩
            · first
              | (exfalso; omega)
              | (obtain rfl : l4 = 0 := by omega
                 go_wp2_with fail
                 go_meet
                 case rel => exact ⟨rfl, HT2.out⟩)
        case rest =>
          obtain ⟨rfl, hT9⟩ := hcut
          clear HT
          have HT := hid hT9
          clear hT9
          go_wp2_with fail
          go_ret
          exact ⟨rfl, HT.out.bel⟩
set_option maxHeartbeats 64000000 in
theorem ruleFault_size (ts : List Tp) (r : Rl) (hwf : (∀ t, t ∈ r.w → Wfc t.c) ∧ (∀ t, t ∈ r.t → Wfc t.c) ∧ (∀ m, m ∈ r.m → Wfc m.p.c)) (tv u1 u2 u3 u4 u5 : Value) (w : World) (hT : Rd w (.row 72 2 (ts.map encY)) tv) (h1 : Rd w (.row 65 18 (r.w.map encP)) u1) (h2 : Rd w (.row 65 18 (r.t.map encP)) u2) (h3 : Rd w (.row 68 20 (r.m.map encM)) u3) (h4 : Rd w (.row 103 3 (r.k.map encK)) u4) (h5 : Rd w (.row 61 6 (r.e.v.map encO)) u5) (E0 : Int) (hE : E0 = 1) (hf0 : frn r.n = 0) (hsz : ¬ szs r) :
    Calls Tryz.prog 36 #[tv, .agg #[.string r.n, u1, u2, u3, u4, .string r.e.ty, u5]] w fun e w' => e = .returned (.int .i64 E0) ∧ Below w.heap.size w w' := by
  subst hE
  obtain ⟨rn, ws, ns, ms, ks, ⟨ety, vs⟩⟩ := r
  simp only at hwf h1 h2 h3 h4 h5 hf0 hsz ⊢
  have HRT := hid hT
  have HR1 := hid h1
  have HR2 := hid h2
  have HR5 := hid h5
  obtain ⟨tp, tc, e0, m0, a0⟩ := rd_row lenY hT
  obtain ⟨q1, j1, e1, m1, a1⟩ := rd_row lenP h1
  obtain ⟨q2, j2, e2, m2, a2⟩ := rd_row lenP h2
  obtain ⟨q3, j3, e3, m3, a3⟩ := rd_row lenM h3
  obtain ⟨q4, j4, e4, m4, a4⟩ := rd_row lenK h4
  obtain ⟨q5, j5, e5, m5, a5⟩ := rd_row lenO h5
  subst e0 e1 e2 e3 e4 e5
  have hc1 := rd_cap h1
  obtain ⟨nt, hnt⟩ : ∃ l, ts.length = l := ⟨_, rfl⟩
  obtain ⟨l1, hl1⟩ : ∃ l, ws.length = l := ⟨_, rfl⟩
  obtain ⟨l2, hl2⟩ : ∃ l, ns.length = l := ⟨_, rfl⟩
  obtain ⟨l3, hl3⟩ : ∃ l, ms.length = l := ⟨_, rfl⟩
  obtain ⟨l4, hl4⟩ : ∃ l, ks.length = l := ⟨_, rfl⟩
  obtain ⟨l5, hl5⟩ : ∃ l, vs.length = l := ⟨_, rfl⟩
  rw [hnt] at HRT
  rw [hl1] at HR1 hc1
  rw [hl2] at HR2
  rw [hl5] at HR5
  unfold szs at hsz
  simp only at hsz
  rw [hl1, hl2, hl3, hl4] at hsz
  rw [hnt, hl1, hl2, hl3, hl4, hl5]
  have HC1 := hid hc1
  have HNT := hid hnt
  have HN1 := hid hl1
  have HN2 := hid hl2
  have HN3 := hid hl3
  have HN4 := hid hl4
  have HWF := hid hwf
  have HA0 : Hid (At encY 2 w tp ts) := a0
  have HA1 : Hid (At encP 18 w q1 ws) := a1
  have HA2 : Hid (At encP 18 w q2 ns) := a2
  have HA3 : Hid (At encM 20 w q3 ms) := a3
  have HA4 : Hid (At encK 3 w q4 ks) := a4
  have HT : Hid (BlkT w (w.alloc (.cells [.string rn, (.slice q1 l1 j1), (.slice q2 l2 j2), (.slice q3 l3 j3), (.slice q4 l4 j4), .string ety, (.slice q5 l5 j5)].toArray 49)) [.string rn, (.slice q1 l1 j1), (.slice q2 l2 j2), (.slice q3 l3 j3), (.slice q4 l4 j4), .string ety, (.slice q5 l5 j5)] 49) := BlkT.start w _ _
  have HFN : Hid (∀ W, Calls Tryz.prog 72 #[.string rn] W fun e w' => e = .returned (.int .i64 0) ∧ Below W.heap.size W w') := fun W => by rw [← hf0]; exact freeName_any rn W
  by_cases hin : 1 ≤ l1 ∧ l1 ≤ 3
  · have HIN : Hid (∀ W, Calls Tryz.prog 17 #[.int .i64 (l1 : Int), .int .i64 1, .int .i64 3] W fun e w' => e = .returned (.bool true) ∧ w' = W) := fun W => in_any (l1 : Int) _ _ true (say_true (by omega)) W
    rcases (by omega : 2 < l2 ∨ (¬ 2 < l2 ∧ 2 < l3) ∨ (¬ 2 < l2 ∧ ¬ 2 < l3 ∧ 6 < l4)) with c2 | ⟨c2, c3⟩ | ⟨c2, c3, c4⟩
    · have c2' : (2 : Int) < (l2 : Int) := by omega
      have cs : ∀ W, BlkT w W [.string rn, (.slice q1 l1 j1), (.slice q2 l2 j2), (.slice q3 l3 j3), (.slice q4 l4 j4), .string ety, (.slice q5 l5 j5)] 49 → W.cell? ⟨w.heap.size, 1, none⟩ = some (.slice q1 l1 j1) ∧ W.cell? ⟨w.heap.size, 2, none⟩ = some (.slice q2 l2 j2) ∧ W.cell? ⟨w.heap.size, 3, none⟩ = some (.slice q3 l3 j3) ∧ W.cell? ⟨w.heap.size, 4, none⟩ = some (.slice q4 l4 j4) := fun W h => ⟨h.c 1, h.c 2, h.c 3, h.c 4⟩
      have HCS := hid cs
      clear cs hT h1 h2 h3 h4 h5 a0 a1 a2 a3 a4 a5 hnt hl1 hl2 hl3 hl4 hl5 hf0 hsz hwf hc1
      go_enter Tryz.func36, Tryz.ntmps36
      go_upto_block 0 with (first
        | (go_at_call 17; refine (HIN.out _).mono ?_; rintro e w' ⟨rfl, rfl⟩)
        | (go_at_call 72; refine (HFN.out _).mono ?_; rintro e w2 ⟨rfl, hb_⟩; have HT2 : Hid (BlkT w w2 [.string rn, (.slice q1 l1 j1), (.slice q2 l2 j2), (.slice q3 l3 j3), (.slice q4 l4 j4), .string ety, (.slice q5 l5 j5)] 49) := HT.out.next hb_; obtain ⟨g1, g2, g3, g4⟩ := HCS.out _ HT2.out; clear hb_))
      clear HT g1 g2 g3 g4
      have HT := HT2
      clear HT2
      go_upto_block 0 with fail
      go_cut [5, 7] from 42 to 73 (fun e _ wr => e = .int .i64 1 ∧ BlkT w wr [.string rn, (.slice q1 l1 j1), (.slice q2 l2 j2), (.slice q3 l3 j3), (.slice q4 l4 j4), .string ety, (.slice q5 l5 j5)] 49)
      case first =>
        go_wp2_with fail
        go_loopg [5, 7] 1 (fun gg e i wr => gg = 1 ∧ e = .int .i64 1 ∧ i = .int .i64 0 ∧ BlkT w wr [.string rn, (.slice q1 l1 j1), (.slice q2 l2 j2), (.slice q3 l3 j3), (.slice q4 l4 j4), .string ety, (.slice q5 l5 j5)] 49)
        case atStart => exact ⟨rfl, rfl, rfl, HT.out⟩
        case round =>
          obtain ⟨rfl, rfl, rfl, hTr⟩ := hrel
          have HT2 := hid hTr
          have a1 : wr.cell? ⟨w.heap.size, 1, none⟩ = some (.slice q1 l1 j1) := hTr.c 1
          clear hTr
          by_cases hlt : 0 < l1
          · have i2 : (0 : Int) < (l1 : Int) := by omega
            go_wp2_with fail
            go_meet
            case rel => exact ⟨rfl, HT2.out⟩
          · first
            | (exfalso; omega)
            | (obtain rfl : l1 = 0 := by omega
               go_wp2_with fail
               go_meet
               case rel => exact ⟨rfl, HT2.out⟩)
      case rest =>
        obtain ⟨rfl, hT9⟩ := hcut
        clear HT
        have HT := hid hT9
        clear hT9
        go_upto_block 2 with fail
        go_cut [5, 8] from 74 to 103 (fun e _ wr => e = .int .i64 1 ∧ BlkT w wr [.string rn, (.slice q1 l1 j1), (.slice q2 l2 j2), (.slice q3 l3 j3), (.slice q4 l4 j4), .string ety, (.slice q5 l5 j5)] 49)
        case first =>
          go_wp2_with fail
          go_loopg [5, 8] 1 (fun gg e i wr => gg = 1 ∧ e = .int .i64 1 ∧ i = .int .i64 0 ∧ BlkT w wr [.string rn, (.slice q1 l1 j1), (.slice q2 l2 j2), (.slice q3 l3 j3), (.slice q4 l4 j4), .string ety, (.slice q5 l5 j5)] 49)
          case atStart => exact ⟨rfl, rfl, rfl, HT.out⟩
          case round =>
            obtain ⟨rfl, rfl, rfl, hTr⟩ := hrel
            have HT2 := hid hTr
            have a1 : wr.cell? ⟨w.heap.size, 2, none⟩ = some (.slice q2 l2 j2) := hTr.c 2
            clear hTr
            by_cases hlt : 0 < l2
            · have i2 : (0 : Int) < (l2 : Int) := by omega
              go_wp2_with fail
              go_meet
              case rel => exact ⟨rfl, HT2.out⟩
            · first
              | (exfalso; omega)
              | (obtain rfl : l2 = 0 := by omega
                 go_wp2_with fail
                 go_meet
                 case rel => exact ⟨rfl, HT2.out⟩)
        case rest =>
          obtain ⟨rfl, hT9⟩ := hcut
          clear HT
          have HT := hid hT9
          clear hT9
          go_upto_block 4 with fail
          go_cut [5, 9] from 104 to 169 (fun e _ wr => e = .int .i64 1 ∧ BlkT w wr [.string rn, (.slice q1 l1 j1), (.slice q2 l2 j2), (.slice q3 l3 j3), (.slice q4 l4 j4), .string ety, (.slice q5 l5 j5)] 49)
          case first =>
            go_wp2_with fail
            go_loopg [5, 9] 1 (fun gg e i wr => gg = 1 ∧ e = .int .i64 1 ∧ i = .int .i64 0 ∧ BlkT w wr [.string rn, (.slice q1 l1 j1), (.slice q2 l2 j2), (.slice q3 l3 j3), (.slice q4 l4 j4), .string ety, (.slice q5 l5 j5)] 49)
            case atStart => exact ⟨rfl, rfl, rfl, HT.out⟩
            case round =>
              obtain ⟨rfl, rfl, rfl, hTr⟩ := hrel
              have HT2 := hid hTr
              have a1 : wr.cell? ⟨w.heap.size, 3, none⟩ = some (.slice q3 l3 j3) := hTr.c 3
              clear hTr
              by_cases hlt : 0 < l3
              · have i2 : (0 : Int) < (l3 : Int) := by omega
                go_wp2_with fail
                go_meet
                case rel => exact ⟨rfl, HT2.out⟩
              · first
                | (exfalso; omega)
                | (obtain rfl : l3 = 0 := by omega
                   go_wp2_with fail
                   go_meet
                   case rel => exact ⟨rfl, HT2.out⟩)
          case rest =>
            obtain ⟨rfl, hT9⟩ := hcut
            clear HT
            have HT := hid hT9
            clear hT9
            go_upto_block 6 with fail
            go_cut [5, 11] from 170 to 187 (fun e _ wr => e = .int .i64 1 ∧ BlkT w wr [.string rn, (.slice q1 l1 j1), (.slice q2 l2 j2), (.slice q3 l3 j3), (.slice q4 l4 j4), .string ety, (.slice q5 l5 j5)] 49)
            case first =>
              go_wp2_with fail
              go_loopg [5, 11] 1 (fun gg e i wr => gg = 1 ∧ e = .int .i64 1 ∧ i = .int .i64 0 ∧ BlkT w wr [.string rn, (.slice q1 l1 j1), (.slice q2 l2 j2), (.slice q3 l3 j3), (.slice q4 l4 j4), .string ety, (.slice q5 l5 j5)] 49)
              case atStart => exact ⟨rfl, rfl, rfl, HT.out⟩
              case round =>
                obtain ⟨rfl, rfl, rfl, hTr⟩ := hrel
                have HT2 := hid hTr
                have a1 : wr.cell? ⟨w.heap.size, 4, none⟩ = some (.slice q4 l4 j4) := hTr.c 4
                clear hTr
                by_cases hlt : 0 < l4
                · have i2 : (0 : Int) < (l4 : Int) := by omega
                  go_wp2_with fail
                  go_meet
                  case rel => exact ⟨rfl, HT2.out⟩
                · first
                  | (exfalso; omega)
                  | (obtain rfl : l4 = 0 := by omega
                     go_wp2_with fail
                     go_meet
                     case rel => exact ⟨rfl, HT2.out⟩)
            case rest =>
              obtain ⟨rfl, hT9⟩ := hcut
              clear HT
              have HT := hid hT9
              clear hT9
              go_wp2_with fail
              go_ret
              exact ⟨rfl, HT.out.bel⟩
    · have c2' : ¬ (2 : Int) < (l2 : Int) := by omega
      have c3' : (2 : Int) < (l3 : Int) := by omega
      have cs : ∀ W, BlkT w W [.string rn, (.slice q1 l1 j1), (.slice q2 l2 j2), (.slice q3 l3 j3), (.slice q4 l4 j4), .string ety, (.slice q5 l5 j5)] 49 → W.cell? ⟨w.heap.size, 1, none⟩ = some (.slice q1 l1 j1) ∧ W.cell? ⟨w.heap.size, 2, none⟩ = some (.slice q2 l2 j2) ∧ W.cell? ⟨w.heap.size, 3, none⟩ = some (.slice q3 l3 j3) ∧ W.cell? ⟨w.heap.size, 4, none⟩ = some (.slice q4 l4 j4) := fun W h => ⟨h.c 1, h.c 2, h.c 3, h.c 4⟩
      have HCS := hid cs
      clear cs hT h1 h2 h3 h4 h5 a0 a1 a2 a3 a4 a5 hnt hl1 hl2 hl3 hl4 hl5 hf0 hsz hwf hc1
      go_enter Tryz.func36, Tryz.ntmps36
      go_upto_block 0 with (first
        | (go_at_call 17; refine (HIN.out _).mono ?_; rintro e w' ⟨rfl, rfl⟩)
        | (go_at_call 72; refine (HFN.out _).mono ?_; rintro e w2 ⟨rfl, hb_⟩; have HT2 : Hid (BlkT w w2 [.string rn, (.slice q1 l1 j1), (.slice q2 l2 j2), (.slice q3 l3 j3), (.slice q4 l4 j4), .string ety, (.slice q5 l5 j5)] 49) := HT.out.next hb_; obtain ⟨g1, g2, g3, g4⟩ := HCS.out _ HT2.out; clear hb_))
      clear HT g1 g2 g3 g4
      have HT := HT2
      clear HT2
      go_upto_block 0 with fail
      go_cut [5, 7] from 42 to 73 (fun e _ wr => e = .int .i64 1 ∧ BlkT w wr [.string rn, (.slice q1 l1 j1), (.slice q2 l2 j2), (.slice q3 l3 j3), (.slice q4 l4 j4), .string ety, (.slice q5 l5 j5)] 49)
      case first =>
        go_wp2_with fail
        go_loopg [5, 7] 1 (fun gg e i wr => gg = 1 ∧ e = .int .i64 1 ∧ i = .int .i64 0 ∧ BlkT w wr [.string rn, (.slice q1 l1 j1), (.slice q2 l2 j2), (.slice q3 l3 j3), (.slice q4 l4 j4), .string ety, (.slice q5 l5 j5)] 49)
        case atStart => exact ⟨rfl, rfl, rfl, HT.out⟩
        case round =>
          obtain ⟨rfl, rfl, rfl, hTr⟩ := hrel
          have HT2 := hid hTr
          have a1 : wr.cell? ⟨w.heap.size, 1, none⟩ = some (.slice q1 l1 j1) := hTr.c 1
          clear hTr
          by_cases hlt : 0 < l1
          · have i2 : (0 : Int) < (l1 : Int) := by omega
            go_wp2_with fail
            go_meet
            case rel => exact ⟨rfl, HT2.out⟩
          · first
            | (exfalso; omega)
            | (obtain rfl : l1 = 0 := by omega
               go_wp2_with fail
               go_meet
               case rel => exact ⟨rfl, HT2.out⟩)
      case rest =>
        obtain ⟨rfl, hT9⟩ := hcut
        clear HT
        have HT := hid hT9
        clear hT9
        go_upto_block 2 with fail
        go_cut [5, 8] from 74 to 103 (fun e _ wr => e = .int .i64 1 ∧ BlkT w wr [.string rn, (.slice q1 l1 j1), (.slice q2 l2 j2), (.slice q3 l3 j3), (.slice q4 l4 j4), .string ety, (.slice q5 l5 j5)] 49)
        case first =>
          go_wp2_with fail
          go_loopg [5, 8] 1 (fun gg e i wr => gg = 1 ∧ e = .int .i64 1 ∧ i = .int .i64 0 ∧ BlkT w wr [.string rn, (.slice q1 l1 j1), (.slice q2 l2 j2), (.slice q3 l3 j3), (.slice q4 l4 j4), .string ety, (.slice q5 l5 j5)] 49)
          case atStart => exact ⟨rfl, rfl, rfl, HT.out⟩
          case round =>
            obtain ⟨rfl, rfl, rfl, hTr⟩ := hrel
            have HT2 := hid hTr
            have a1 : wr.cell? ⟨w.heap.size, 2, none⟩ = some (.slice q2 l2 j2) := hTr.c 2
            clear hTr
            by_cases hlt : 0 < l2
            · have i2 : (0 : Int) < (l2 : Int) := by omega
              go_wp2_with fail
              go_meet
              case rel => exact ⟨rfl, HT2.out⟩
            · first
              | (exfalso; omega)
              | (obtain rfl : l2 = 0 := by omega
                 go_wp2_with fail
                 go_meet
                 case rel => exact ⟨rfl, HT2.out⟩)
        case rest =>
          obtain ⟨rfl, hT9⟩ := hcut
          clear HT
          have HT := hid hT9
          clear hT9
          go_upto_block 4 with fail
          go_cut [5, 9] from 104 to 169 (fun e _ wr => e = .int .i64 1 ∧ BlkT w wr [.string rn, (.slice q1 l1 j1), (.slice q2 l2 j2), (.slice q3 l3 j3), (.slice q4 l4 j4), .string ety, (.slice q5 l5 j5)] 49)
          case first =>
            go_wp2_with fail
            go_loopg [5, 9] 1 (fun gg e i wr => gg = 1 ∧ e = .int .i64 1 ∧ i = .int .i64 0 ∧ BlkT w wr [.string rn, (.slice q1 l1 j1), (.slice q2 l2 j2), (.slice q3 l3 j3), (.slice q4 l4 j4), .string ety, (.slice q5 l5 j5)] 49)
            case atStart => exact ⟨rfl, rfl, rfl, HT.out⟩
            case round =>
              obtain ⟨rfl, rfl, rfl, hTr⟩ := hrel
              have HT2 := hid hTr
              have a1 : wr.cell? ⟨w.heap.size, 3, none⟩ = some (.slice q3 l3 j3) := hTr.c 3
              clear hTr
              by_cases hlt : 0 < l3
              · have i2 : (0 : Int) < (l3 : Int) := by omega
                go_wp2_with fail
                go_meet
                case rel => exact ⟨rfl, HT2.out⟩
              · first
                | (exfalso; omega)
                | (obtain rfl : l3 = 0 := by omega
                   go_wp2_with fail
                   go_meet
                   case rel => exact ⟨rfl, HT2.out⟩)
          case rest =>
            obtain ⟨rfl, hT9⟩ := hcut
            clear HT
            have HT := hid hT9
            clear hT9
            go_upto_block 6 with fail
            go_cut [5, 11] from 170 to 187 (fun e _ wr => e = .int .i64 1 ∧ BlkT w wr [.string rn, (.slice q1 l1 j1), (.slice q2 l2 j2), (.slice q3 l3 j3), (.slice q4 l4 j4), .string ety, (.slice q5 l5 j5)] 49)
            case first =>
              go_wp2_with fail
              go_loopg [5, 11] 1 (fun gg e i wr => gg = 1 ∧ e = .int .i64 1 ∧ i = .int .i64 0 ∧ BlkT w wr [.string rn, (.slice q1 l1 j1), (.slice q2 l2 j2), (.slice q3 l3 j3), (.slice q4 l4 j4), .string ety, (.slice q5 l5 j5)] 49)
              case atStart => exact ⟨rfl, rfl, rfl, HT.out⟩
              case round =>
                obtain ⟨rfl, rfl, rfl, hTr⟩ := hrel
                have HT2 := hid hTr
                have a1 : wr.cell? ⟨w.heap.size, 4, none⟩ = some (.slice q4 l4 j4) := hTr.c 4
                clear hTr
                by_cases hlt : 0 < l4
                · have i2 : (0 : Int) < (l4 : Int) := by omega
                  go_wp2_with fail
                  go_meet
                  case rel => exact ⟨rfl, HT2.out⟩
                · first
                  | (exfalso; omega)
                  | (obtain rfl : l4 = 0 := by omega
                     go_wp2_with fail
                     go_meet
                     case rel => exact ⟨rfl, HT2.out⟩)
            case rest =>
              obtain ⟨rfl, hT9⟩ := hcut
              clear HT
              have HT := hid hT9
              clear hT9
              go_wp2_with fail
              go_ret
              exact ⟨rfl, HT.out.bel⟩
    · have c2' : ¬ (2 : Int) < (l2 : Int) := by omega
      have c3' : ¬ (2 : Int) < (l3 : Int) := by omega
      have c4' : (6 : Int) < (l4 : Int) := by omega
      have cs : ∀ W, BlkT w W [.string rn, (.slice q1 l1 j1), (.slice q2 l2 j2), (.slice q3 l3 j3), (.slice q4 l4 j4), .string ety, (.slice q5 l5 j5)] 49 → W.cell? ⟨w.heap.size, 1, none⟩ = some (.slice q1 l1 j1) ∧ W.cell? ⟨w.heap.size, 2, none⟩ = some (.slice q2 l2 j2) ∧ W.cell? ⟨w.heap.size, 3, none⟩ = some (.slice q3 l3 j3) ∧ W.cell? ⟨w.heap.size, 4, none⟩ = some (.slice q4 l4 j4) := fun W h => ⟨h.c 1, h.c 2, h.c 3, h.c 4⟩
      have HCS := hid cs
      clear cs hT h1 h2 h3 h4 h5 a0 a1 a2 a3 a4 a5 hnt hl1 hl2 hl3 hl4 hl5 hf0 hsz hwf hc1
      go_enter Tryz.func36, Tryz.ntmps36
      go_upto_block 0 with (first
        | (go_at_call 17; refine (HIN.out _).mono ?_; rintro e w' ⟨rfl, rfl⟩)
        | (go_at_call 72; refine (HFN.out _).mono ?_; rintro e w2 ⟨rfl, hb_⟩; have HT2 : Hid (BlkT w w2 [.string rn, (.slice q1 l1 j1), (.slice q2 l2 j2), (.slice q3 l3 j3), (.slice q4 l4 j4), .string ety, (.slice q5 l5 j5)] 49) := HT.out.next hb_; obtain ⟨g1, g2, g3, g4⟩ := HCS.out _ HT2.out; clear hb_))
      clear HT g1 g2 g3 g4
      have HT := HT2
      clear HT2
      go_upto_block 0 with fail
      go_cut [5, 7] from 42 to 73 (fun e _ wr => e = .int .i64 1 ∧ BlkT w wr [.string rn, (.slice q1 l1 j1), (.slice q2 l2 j2), (.slice q3 l3 j3), (.slice q4 l4 j4), .string ety, (.slice q5 l5 j5)] 49)
      case first =>
        go_wp2_with fail
        go_loopg [5, 7] 1 (fun gg e i wr => gg = 1 ∧ e = .int .i64 1 ∧ i = .int .i64 0 ∧ BlkT w wr [.string rn, (.slice q1 l1 j1), (.slice q2 l2 j2), (.slice q3 l3 j3), (.slice q4 l4 j4), .string ety, (.slice q5 l5 j5)] 49)
        case atStart => exact ⟨rfl, rfl, rfl, HT.out⟩
        case round =>
          obtain ⟨rfl, rfl, rfl, hTr⟩ := hrel
          have HT2 := hid hTr
          have a1 : wr.cell? ⟨w.heap.size, 1, none⟩ = some (.slice q1 l1 j1) := hTr.c 1
          clear hTr
          by_cases hlt : 0 < l1
          · have i2 : (0 : Int) < (l1 : Int) := by omega
            go_wp2_with fail
            go_meet
            case rel => exact ⟨rfl, HT2.out⟩
          · first
            | (exfalso; omega)
            | (obtain rfl : l1 = 0 := by omega
               go_wp2_with fail
               go_meet
               case rel => exact ⟨rfl, HT2.out⟩)
      case rest =>
        obtain ⟨rfl, hT9⟩ := hcut
        clear HT
        have HT := hid hT9
        clear hT9
        go_upto_block 2 with fail
        go_cut [5, 8] from 74 to 103 (fun e _ wr => e = .int .i64 1 ∧ BlkT w wr [.string rn, (.slice q1 l1 j1), (.slice q2 l2 j2), (.slice q3 l3 j3), (.slice q4 l4 j4), .string ety, (.slice q5 l5 j5)] 49)
        case first =>
          go_wp2_with fail
          go_loopg [5, 8] 1 (fun gg e i wr => gg = 1 ∧ e = .int .i64 1 ∧ i = .int .i64 0 ∧ BlkT w wr [.string rn, (.slice q1 l1 j1), (.slice q2 l2 j2), (.slice q3 l3 j3), (.slice q4 l4 j4), .string ety, (.slice q5 l5 j5)] 49)
          case atStart => exact ⟨rfl, rfl, rfl, HT.out⟩
          case round =>
            obtain ⟨rfl, rfl, rfl, hTr⟩ := hrel
            have HT2 := hid hTr
            have a1 : wr.cell? ⟨w.heap.size, 2, none⟩ = some (.slice q2 l2 j2) := hTr.c 2
            clear hTr
            by_cases hlt : 0 < l2
            · have i2 : (0 : Int) < (l2 : Int) := by omega
              go_wp2_with fail
              go_meet
              case rel => exact ⟨rfl, HT2.out⟩
            · first
              | (exfalso; omega)
              | (obtain rfl : l2 = 0 := by omega
                 go_wp2_with fail
                 go_meet
                 case rel => exact ⟨rfl, HT2.out⟩)
        case rest =>
          obtain ⟨rfl, hT9⟩ := hcut
          clear HT
          have HT := hid hT9
          clear hT9
          go_upto_block 4 with fail
          go_cut [5, 9] from 104 to 169 (fun e _ wr => e = .int .i64 1 ∧ BlkT w wr [.string rn, (.slice q1 l1 j1), (.slice q2 l2 j2), (.slice q3 l3 j3), (.slice q4 l4 j4), .string ety, (.slice q5 l5 j5)] 49)
          case first =>
            go_wp2_with fail
            go_loopg [5, 9] 1 (fun gg e i wr => gg = 1 ∧ e = .int .i64 1 ∧ i = .int .i64 0 ∧ BlkT w wr [.string rn, (.slice q1 l1 j1), (.slice q2 l2 j2), (.slice q3 l3 j3), (.slice q4 l4 j4), .string ety, (.slice q5 l5 j5)] 49)
            case atStart => exact ⟨rfl, rfl, rfl, HT.out⟩
            case round =>
              obtain ⟨rfl, rfl, rfl, hTr⟩ := hrel
              have HT2 := hid hTr
              have a1 : wr.cell? ⟨w.heap.size, 3, none⟩ = some (.slice q3 l3 j3) := hTr.c 3
              clear hTr
              by_cases hlt : 0 < l3
              · have i2 : (0 : Int) < (l3 : Int) := by omega
                go_wp2_with fail
                go_meet
                case rel => exact ⟨rfl, HT2.out⟩
              · first
                | (exfalso; omega)
                | (obtain rfl : l3 = 0 := by omega
                   go_wp2_with fail
                   go_meet
                   case rel => exact ⟨rfl, HT2.out⟩)
          case rest =>
            obtain ⟨rfl, hT9⟩ := hcut
            clear HT
            have HT := hid hT9
            clear hT9
            go_upto_block 6 with fail
            go_cut [5, 11] from 170 to 187 (fun e _ wr => e = .int .i64 1 ∧ BlkT w wr [.string rn, (.slice q1 l1 j1), (.slice q2 l2 j2), (.slice q3 l3 j3), (.slice q4 l4 j4), .string ety, (.slice q5 l5 j5)] 49)
            case first =>
              go_wp2_with fail
              go_loopg [5, 11] 1 (fun gg e i wr => gg = 1 ∧ e = .int .i64 1 ∧ i = .int .i64 0 ∧ BlkT w wr [.string rn, (.slice q1 l1 j1), (.slice q2 l2 j2), (.slice q3 l3 j3), (.slice q4 l4 j4), .string ety, (.slice q5 l5 j5)] 49)
              case atStart => exact ⟨rfl, rfl, rfl, HT.out⟩
              case round =>
                obtain ⟨rfl, rfl, rfl, hTr⟩ := hrel
                have HT2 := hid hTr
                have a1 : wr.cell? ⟨w.heap.size, 4, none⟩ = some (.slice q4 l4 j4) := hTr.c 4
                clear hTr
                by_cases hlt : 0 < l4
                · have i2 : (0 : Int) < (l4 : Int) := by omega
                  go_wp2_with fail
                  go_meet
                  case rel => exact ⟨rfl, HT2.out⟩
                · first
                  | (exfalso; omega)
                  | (obtain rfl : l4 = 0 := by omega
                     go_wp2_with fail
                     go_meet
                     case rel => exact ⟨rfl, HT2.out⟩)
            case rest =>
              obtain ⟨rfl, hT9⟩ := hcut
              clear HT
              have HT := hid hT9
              clear hT9
              go_wp2_with fail
              go_ret
              exact ⟨rfl, HT.out.bel⟩
  · have HIN : Hid (∀ W, Calls Tryz.prog 17 #[.int .i64 (l1 : Int), .int .i64 1, .int .i64 3] W fun e w' => e = .returned (.bool false) ∧ w' = W) := fun W => in_any (l1 : Int) _ _ false (say_false (by omega)) W
    have cs : ∀ W, BlkT w W [.string rn, (.slice q1 l1 j1), (.slice q2 l2 j2), (.slice q3 l3 j3), (.slice q4 l4 j4), .string ety, (.slice q5 l5 j5)] 49 → W.cell? ⟨w.heap.size, 1, none⟩ = some (.slice q1 l1 j1) ∧ W.cell? ⟨w.heap.size, 2, none⟩ = some (.slice q2 l2 j2) ∧ W.cell? ⟨w.heap.size, 3, none⟩ = some (.slice q3 l3 j3) ∧ W.cell? ⟨w.heap.size, 4, none⟩ = some (.slice q4 l4 j4) := fun W h => ⟨h.c 1, h.c 2, h.c 3, h.c 4⟩
    have HCS := hid cs
    clear cs hT h1 h2 h3 h4 h5 a0 a1 a2 a3 a4 a5 hnt hl1 hl2 hl3 hl4 hl5 hf0 hsz hwf hc1
    go_enter Tryz.func36, Tryz.ntmps36
    go_upto_block 0 with (first
      | (go_at_call 17; refine (HIN.out _).mono ?_; rintro e w' ⟨rfl, rfl⟩)
      | (go_at_call 72; refine (HFN.out _).mono ?_; rintro e w2 ⟨rfl, hb_⟩; have HT2 : Hid (BlkT w w2 [.string rn, (.slice q1 l1 j1), (.slice q2 l2 j2), (.slice q3 l3 j3), (.slice q4 l4 j4), .string ety, (.slice q5 l5 j5)] 49) := HT.out.next hb_; obtain ⟨g1, g2, g3, g4⟩ := HCS.out _ HT2.out; clear hb_))
    clear HT g1 g2 g3 g4
    have HT := HT2
    clear HT2
    go_upto_block 0 with fail
    go_cut [5, 7] from 42 to 73 (fun e _ wr => e = .int .i64 1 ∧ BlkT w wr [.string rn, (.slice q1 l1 j1), (.slice q2 l2 j2), (.slice q3 l3 j3), (.slice q4 l4 j4), .string ety, (.slice q5 l5 j5)] 49)
    case first =>
      go_wp2_with fail
      go_loopg [5, 7] 1 (fun gg e i wr => gg = 1 ∧ e = .int .i64 1 ∧ i = .int .i64 0 ∧ BlkT w wr [.string rn, (.slice q1 l1 j1), (.slice q2 l2 j2), (.slice q3 l3 j3), (.slice q4 l4 j4), .string ety, (.slice q5 l5 j5)] 49)
      case atStart => exact ⟨rfl, rfl, rfl, HT.out⟩
      case round =>
        obtain ⟨rfl, rfl, rfl, hTr⟩ := hrel
        have HT2 := hid hTr
        have a1 : wr.cell? ⟨w.heap.size, 1, none⟩ = some (.slice q1 l1 j1) := hTr.c 1
        clear hTr
        by_cases hlt : 0 < l1
        · have i2 : (0 : Int) < (l1 : Int) := by omega
          go_wp2_with fail
          go_meet
          case rel => exact ⟨rfl, HT2.out⟩
        · first
          | (exfalso; omega)
          | (obtain rfl : l1 = 0 := by omega
             go_wp2_with fail
             go_meet
             case rel => exact ⟨rfl, HT2.out⟩)
    case rest =>
      obtain ⟨rfl, hT9⟩ := hcut
      clear HT
      have HT := hid hT9
      clear hT9
      go_upto_block 2 with fail
      go_cut [5, 8] from 74 to 103 (fun e _ wr => e = .int .i64 1 ∧ BlkT w wr [.string rn, (.slice q1 l1 j1), (.slice q2 l2 j2), (.slice q3 l3 j3), (.slice q4 l4 j4), .string ety, (.slice q5 l5 j5)] 49)
      case first =>
        go_wp2_with fail
        go_loopg [5, 8] 1 (fun gg e i wr => gg = 1 ∧ e = .int .i64 1 ∧ i = .int .i64 0 ∧ BlkT w wr [.string rn, (.slice q1 l1 j1), (.slice q2 l2 j2), (.slice q3 l3 j3), (.slice q4 l4 j4), .string ety, (.slice q5 l5 j5)] 49)
        case atStart => exact ⟨rfl, rfl, rfl, HT.out⟩
        case round =>
          obtain ⟨rfl, rfl, rfl, hTr⟩ := hrel
          have HT2 := hid hTr
          have a1 : wr.cell? ⟨w.heap.size, 2, none⟩ = some (.slice q2 l2 j2) := hTr.c 2
          clear hTr
          by_cases hlt : 0 < l2
          · have i2 : (0 : Int) < (l2 : Int) := by omega
            go_wp2_with fail
            go_meet
            case rel => exact ⟨rfl, HT2.out⟩
          · first
            | (exfalso; omega)
            | (obtain rfl : l2 = 0 := by omega
               go_wp2_with fail
               go_meet
               case rel => exact ⟨rfl, HT2.out⟩)
      case rest =>
        obtain ⟨rfl, hT9⟩ := hcut
        clear HT
        have HT := hid hT9
        clear hT9
        go_upto_block 4 with fail
        go_cut [5, 9] from 104 to 169 (fun e _ wr => e = .int .i64 1 ∧ BlkT w wr [.string rn, (.slice q1 l1 j1), (.slice q2 l2 j2), (.slice q3 l3 j3), (.slice q4 l4 j4), .string ety, (.slice q5 l5 j5)] 49)
        case first =>
          go_wp2_with fail
          go_loopg [5, 9] 1 (fun gg e i wr => gg = 1 ∧ e = .int .i64 1 ∧ i = .int .i64 0 ∧ BlkT w wr [.string rn, (.slice q1 l1 j1), (.slice q2 l2 j2), (.slice q3 l3 j3), (.slice q4 l4 j4), .string ety, (.slice q5 l5 j5)] 49)
          case atStart => exact ⟨rfl, rfl, rfl, HT.out⟩
          case round =>
            obtain ⟨rfl, rfl, rfl, hTr⟩ := hrel
            have HT2 := hid hTr
            have a1 : wr.cell? ⟨w.heap.size, 3, none⟩ = some (.slice q3 l3 j3) := hTr.c 3
            clear hTr
            by_cases hlt : 0 < l3
            · have i2 : (0 : Int) < (l3 : Int) := by omega
              go_wp2_with fail
              go_meet
              case rel => exact ⟨rfl, HT2.out⟩
            · first
              | (exfalso; omega)
              | (obtain rfl : l3 = 0 := by omega
                 go_wp2_with fail
                 go_meet
                 case rel => exact ⟨rfl, HT2.out⟩)
        case rest =>
          obtain ⟨rfl, hT9⟩ := hcut
          clear HT
          have HT := hid hT9
          clear hT9
          go_upto_block 6 with fail
          go_cut [5, 11] from 170 to 187 (fun e _ wr => e = .int .i64 1 ∧ BlkT w wr [.string rn, (.slice q1 l1 j1), (.slice q2 l2 j2), (.slice q3 l3 j3), (.slice q4 l4 j4), .string ety, (.slice q5 l5 j5)] 49)
          case first =>
            go_wp2_with fail
            go_loopg [5, 11] 1 (fun gg e i wr => gg = 1 ∧ e = .int .i64 1 ∧ i = .int .i64 0 ∧ BlkT w wr [.string rn, (.slice q1 l1 j1), (.slice q2 l2 j2), (.slice q3 l3 j3), (.slice q4 l4 j4), .string ety, (.slice q5 l5 j5)] 49)
            case atStart => exact ⟨rfl, rfl, rfl, HT.out⟩
            case round =>
              obtain ⟨rfl, rfl, rfl, hTr⟩ := hrel
              have HT2 := hid hTr
              have a1 : wr.cell? ⟨w.heap.size, 4, none⟩ = some (.slice q4 l4 j4) := hTr.c 4
              clear hTr
              by_cases hlt : 0 < l4
              · have i2 : (0 : Int) < (l4 : Int) := by omega
                go_wp2_with fail
                go_meet
                case rel => exact ⟨rfl, HT2.out⟩
              · first
                | (exfalso; omega)
                | (obtain rfl : l4 = 0 := by omega
                   go_wp2_with fail
                   go_meet
                   case rel => exact ⟨rfl, HT2.out⟩)
          case rest =>
            obtain ⟨rfl, hT9⟩ := hcut
            clear HT
            have HT := hid hT9
            clear hT9
            go_wp2_with fail
            go_ret
            exact ⟨rfl, HT.out.bel⟩
theorem ruleFault_any (ts : List Tp) (r : Rl) (hwf : (∀ t, t ∈ r.w → Wfc t.c) ∧ (∀ t, t ∈ r.t → Wfc t.c) ∧ (∀ m, m ∈ r.m → Wfc m.p.c)) (tv u1 u2 u3 u4 u5 : Value) (w : World) (hT : Rd w (.row 72 2 (ts.map encY)) tv) (h1 : Rd w (.row 65 18 (r.w.map encP)) u1) (h2 : Rd w (.row 65 18 (r.t.map encP)) u2) (h3 : Rd w (.row 68 20 (r.m.map encM)) u3) (h4 : Rd w (.row 103 3 (r.k.map encK)) u4) (h5 : Rd w (.row 61 6 (r.e.v.map encO)) u5) :
    Calls Tryz.prog 36 #[tv, .agg #[.string r.n, u1, u2, u3, u4, .string r.e.ty, u5]] w fun e w' => e = .returned (.int .i64 (rck ts r)) ∧ Below w.heap.size w w' := by
  unfold rck
  by_cases hf : frn r.n = 0
  · rw [if_neg (fun c => c hf)]
    by_cases hs : szs r
    · rw [if_neg (fun c => c hs)]
      exact ruleFault_ok ts r hwf tv u1 u2 u3 u4 u5 w hT h1 h2 h3 h4 h5 hf hs
    · rw [if_pos hs]
      exact ruleFault_size ts r hwf tv u1 u2 u3 u4 u5 w hT h1 h2 h3 h4 h5 1 rfl hf hs
  · rw [if_pos hf]
    exact ruleFault_name ts r hwf tv u1 u2 u3 u4 u5 w hT h1 h2 h3 h4 h5 _ rfl hf
end Go.Proofs.YthndlfdbmljkhaaGreatDoor.Chk
namespace Go.Proofs.YthndlfdbmljkhaaGreatDoor.Chk
open Go.ChangeShapes Go.WideShapes Go.ChangeAt Go.RowKit Go.Maps
set_option linter.unusedVariables false
set_option linter.unusedSimpArgs false
set_option maxRecDepth 20000
/-- The conditions of a rule are conditions. -/
def Wfr (r : Rl) : Prop := (∀ t, t ∈ r.w → Wfc t.c) ∧ (∀ t, t ∈ r.t → Wfc t.c) ∧ (∀ m, m ∈ r.m → Wfc m.p.c)
/-- What is wrong with a book. -/
def bok (ts : List Tp) (rs : List Rl) : Int := bkf (rck ts) ts rs
theorem bookFault_any (ts : List Tp) (rs : List Rl) (hwf : ∀ r, r ∈ rs → Wfr r) (tv rv : Value) (w : World) (hT : Rd w (.row 72 2 (ts.map encY)) tv) (hR : Rd w (.row 49 7 (rs.map encR)) rv) :
    Calls Tryz.prog 16 #[.agg #[tv, rv]] w fun e w' => e = .returned (.int .i64 (bok ts rs)) ∧ Below w.heap.size w w' :=
  bookFault_of (rck ts) ts rs tv rv w hT hR fun x hx W us hW hl => by
    obtain ⟨v1, v2, v3, v4, v5, rfl, h1, h2, h3, h4, h5⟩ := rdR hl
    exact ruleFault_any ts x (hwf x hx) tv v1 v2 v3 v4 v5 W (hT.later hW) h1 h2 h3 h4 h5
end Go.Proofs.YthndlfdbmljkhaaGreatDoor.Chk
