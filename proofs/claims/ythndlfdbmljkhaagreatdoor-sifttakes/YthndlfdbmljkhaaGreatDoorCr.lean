/-
  A rule that is wrong at once, by the reference; every rule. A book, by the reference. Values, names, types and events in plain words. What Check and the document say of a value. What Name and the document say of a name.
-/
import Derived.Test.YthndlfdbmljkhaaGreatDoorRows
import Derived.Handy
import Derived.WalkSmall
import Derived.Deep.QuietTactic
import Derived.BigQuiet
import Derived.Deep.RegionHeld3
import Derived.Deep.RegionLaw
import Derived.OwnWalk
import Derived.Lib.Bytealg
import Derived.Test.YthndlfdbmljkhaaGreatDoorCq
namespace Go.Proofs.YthndlfdbmljkhaaGreatDoor.Chk
open Go.ChangeShapes Go.WideShapes Go.ChangeAt Go.RowKit Go.Maps
set_option linter.unusedVariables false
set_option linter.unusedSimpArgs false
set_option maxRecDepth 20000
set_option maxHeartbeats 64000000 in
theorem ruleFault_name (ts : List Tp) (r : Rl) (hwf : (∀ t, t ∈ r.w → Wfc t.c) ∧ (∀ t, t ∈ r.t → Wfc t.c) ∧ (∀ m, m ∈ r.m → Wfc m.p.c)) (tv u1 u2 u3 u4 u5 : Value) (w : World) (hT : Rd w (.row 72 2 (ts.map encY)) tv) (h1 : Rd w (.row 65 18 (r.w.map encP)) u1) (h2 : Rd w (.row 65 18 (r.t.map encP)) u2) (h3 : Rd w (.row 68 20 (r.m.map encM)) u3) (h4 : Rd w (.row 103 3 (r.k.map encK)) u4) (h5 : Rd w (.row 61 6 (r.e.v.map encO)) u5) (E0 : Int) (hf0 : frn r.n = E0) (hsz : E0 ≠ 0) :
    Calls Tryz.prog 36 #[tv, .agg #[.string r.n, u1, u2, u3, u4, .string r.e.ty, u5]] w fun e w' => e = .returned (.int .i64 E0) ∧ Below w.heap.size w w' := by
  obtain ⟨rn, ws, ns, ms, ks, ⟨ety, vs⟩⟩ := r
  simp only at hwf h1 h2 h3 h4 h5 hf0 hsz ⊢
  have HRT := hid hT
  have HR1 := hid h1
  have HR2 := hid h2
  have HR5 := hid h5
  obtain ⟨tp, tc, e0, m0, a0⟩ := rd_row lenY hT
  obtain ⟨q1, j1, e1, m1, a1⟩ := rd_row lenP h1
  obtain ⟨q2, j2, e2, m2, a2⟩ := rd_row lenP h2
  obtain ⟨q3, j3, e3, m3, a3⟩ := rd_row lenM h3
  obtain ⟨q4, j4, e4, m4, a4⟩ := rd_row lenK h4
  obtain ⟨q5, j5, e5, m5, a5⟩ := rd_row lenO h5
  subst e0 e1 e2 e3 e4 e5
  have hc1 := rd_cap h1
  obtain ⟨nt, hnt⟩ : ∃ l, ts.length = l := ⟨_, rfl⟩
  obtain ⟨l1, hl1⟩ : ∃ l, ws.length = l := ⟨_, rfl⟩
  obtain ⟨l2, hl2⟩ : ∃ l, ns.length = l := ⟨_, rfl⟩
  obtain ⟨l3, hl3⟩ : ∃ l, ms.length = l := ⟨_, rfl⟩
  obtain ⟨l4, hl4⟩ : ∃ l, ks.length = l := ⟨_, rfl⟩
  obtain ⟨l5, hl5⟩ : ∃ l, vs.length = l := ⟨_, rfl⟩
  rw [hnt] at HRT
  rw [hl1] at HR1 hc1
  rw [hl2] at HR2
  rw [hl5] at HR5
  rw [hnt, hl1, hl2, hl3, hl4, hl5]
  have HC1 := hid hc1
  have HNT := hid hnt
  have HN1 := hid hl1
  have HN2 := hid hl2
  have HN3 := hid hl3
  have HN4 := hid hl4
  have HWF := hid hwf
  have HA0 : Hid (At encY 2 w tp ts) := a0
  have HA1 : Hid (At encP 18 w q1 ws) := a1
  have HA2 : Hid (At encP 18 w q2 ns) := a2
  have HA3 : Hid (At encM 20 w q3 ms) := a3
  have HA4 : Hid (At encK 3 w q4 ks) := a4
  have HT : Hid (BlkT w (w.alloc (.cells [.string rn, (.slice q1 l1 j1), (.slice q2 l2 j2), (.slice q3 l3 j3), (.slice q4 l4 j4), .string ety, (.slice q5 l5 j5)].toArray 49)) [.string rn, (.slice q1 l1 j1), (.slice q2 l2 j2), (.slice q3 l3 j3), (.slice q4 l4 j4), .string ety, (.slice q5 l5 j5)] 49) := BlkT.start w _ _
  have HFN : Hid (∀ W, Calls Tryz.prog 72 #[.string rn] W fun e w' => e = .returned (.int .i64 E0) ∧ Below W.heap.size W w') := fun W => by rw [← hf0]; exact freeName_any rn W
  have d0 : (E0 == 0) = false := by simpa using hsz
  have HIN := HFN
  have cs : ∀ W, BlkT w W [.string rn, (.slice q1 l1 j1), (.slice q2 l2 j2), (.slice q3 l3 j3), (.slice q4 l4 j4), .string ety, (.slice q5 l5 j5)] 49 → W.cell? ⟨w.heap.size, 1, none⟩ = some (.slice q1 l1 j1) ∧ W.cell? ⟨w.heap.size, 2, none⟩ = some (.slice q2 l2 j2) ∧ W.cell? ⟨w.heap.size, 3, none⟩ = some (.slice q3 l3 j3) ∧ W.cell? ⟨w.heap.size, 4, none⟩ = some (.slice q4 l4 j4) := fun W h => ⟨h.c 1, h.c 2, h.c 3, h.c 4⟩
  have HCS := hid cs
  clear cs hT h1 h2 h3 h4 h5 a0 a1 a2 a3 a4 a5 hnt hl1 hl2 hl3 hl4 hl5 hf0 hsz hwf hc1
  go_enter Tryz.func36, Tryz.ntmps36
  go_upto_block 0 with (first
    | (go_at_call 17; refine (HIN.out _).mono ?_; rintro e w' ⟨rfl, rfl⟩)
    | (go_at_call 72; refine (HFN.out _).mono ?_; rintro e w2 ⟨rfl, hb_⟩; have HT2 : Hid _ := HT.out.next hb_; obtain ⟨g1, g2, g3, g4⟩ := HCS.out _ HT2.out; clear hb_))
  clear HT g1 g2 g3 g4
  have HT := HT2
  clear HT2
  go_upto_block 0 with fail
  go_cut [5, 7] from 42 to 73 (fun e _ wr => e = .int .i64 E0 ∧ BlkT w wr [.string rn, (.slice q1 l1 j1), (.slice q2 l2 j2), (.slice q3 l3 j3), (.slice q4 l4 j4), .string ety, (.slice q5 l5 j5)] 49)
  case first =>
    go_wp2_with fail
    go_loopg [5, 7] 1 (fun gg e i wr => gg = 1 ∧ e = .int .i64 E0 ∧ i = .int .i64 0 ∧ BlkT w wr [.string rn, (.slice q1 l1 j1), (.slice q2 l2 j2), (.slice q3 l3 j3), (.slice q4 l4 j4), .string ety, (.slice q5 l5 j5)] 49)
    case atStart => exact ⟨rfl, rfl, rfl, HT.out⟩
    case round =>
      obtain ⟨rfl, rfl, rfl, hTr⟩ := hrel
      have HT2 := hid hTr
      have a1 : wr.cell? ⟨w.heap.size, 1, none⟩ = some (.slice q1 l1 j1) := hTr.c 1
      clear hTr
      by_cases hlt : 0 < l1
      . have i2 : (0 : Int) < (l1 : Int) := by omega
        go_wp2_with fail
        go_meet
        case rel => exact ⟨rfl, HT2.out⟩
      . first
        | (exfalso; omega)
        | (obtain rfl : l1 = 0 := by omega
           go_wp2_with fail
           go_meet
           case rel => exact ⟨rfl, HT2.out⟩)
  case rest =>
    obtain ⟨rfl, hT9⟩ := hcut
    clear HT
    have HT := hid hT9
    clear hT9
    go_upto_block 2 with fail
    go_cut [5, 8] from 74 to 103 (fun e _ wr => e = .int .i64 E0 ∧ BlkT w wr [.string rn, (.slice q1 l1 j1), (.slice q2 l2 j2), (.slice q3 l3 j3), (.slice q4 l4 j4), .string ety, (.slice q5 l5 j5)] 49)
    case first =>
      go_wp2_with fail
      go_loopg [5, 8] 1 (fun gg e i wr => gg = 1 ∧ e = .int .i64 E0 ∧ i = .int .i64 0 ∧ BlkT w wr [.string rn, (.slice q1 l1 j1), (.slice q2 l2 j2), (.slice q3 l3 j3), (.slice q4 l4 j4), .string ety, (.slice q5 l5 j5)] 49)
      case atStart => exact ⟨rfl, rfl, rfl, HT.out⟩
      case round =>
        obtain ⟨rfl, rfl, rfl, hTr⟩ := hrel
        have HT2 := hid hTr
        have a1 : wr.cell? ⟨w.heap.size, 2, none⟩ = some (.slice q2 l2 j2) := hTr.c 2
        clear hTr
        by_cases hlt : 0 < l2
        . have i2 : (0 : Int) < (l2 : Int) := by omega
          go_wp2_with fail
          go_meet
          case rel => exact ⟨rfl, HT2.out⟩
        . first
          | (exfalso; omega)
          | (obtain rfl : l2 = 0 := by omega
             go_wp2_with fail
             go_meet
             case rel => exact ⟨rfl, HT2.out⟩)
    case rest =>
      obtain ⟨rfl, hT9⟩ := hcut
      clear HT
      have HT := hid hT9
      clear hT9
      go_upto_block 4 with fail
      go_cut [5, 9] from 104 to 169 (fun e _ wr => e = .int .i64 E0 ∧ BlkT w wr [.string rn, (.slice q1 l1 j1), (.slice q2 l2 j2), (.slice q3 l3 j3), (.slice q4 l4 j4), .string ety, (.slice q5 l5 j5)] 49)
      case first =>
        go_wp2_with fail
        go_loopg [5, 9] 1 (fun gg e i wr => gg = 1 ∧ e = .int .i64 E0 ∧ i = .int .i64 0 ∧ BlkT w wr [.string rn, (.slice q1 l1 j1), (.slice q2 l2 j2), (.slice q3 l3 j3), (.slice q4 l4 j4), .string ety, (.slice q5 l5 j5)] 49)
        case atStart => exact ⟨rfl, rfl, rfl, HT.out⟩
        case round =>
          obtain ⟨rfl, rfl, rfl, hTr⟩ := hrel
          have HT2 := hid hTr
          have a1 : wr.cell? ⟨w.heap.size, 3, none⟩ = some (.slice q3 l3 j3) := hTr.c 3
          clear hTr
          by_cases hlt : 0 < l3
          . have i2 : (0 : Int) < (l3 : Int) := by omega
            go_wp2_with fail
            go_meet
            case rel => exact ⟨rfl, HT2.out⟩
          . first
            | (exfalso; omega)
            | (obtain rfl : l3 = 0 := by omega
               go_wp2_with fail
               go_meet
               case rel => exact ⟨rfl, HT2.out⟩)
      case rest =>
        obtain ⟨rfl, hT9⟩ := hcut
        clear HT
        have HT := hid hT9
        clear hT9
        go_upto_block 6 with fail
        go_cut [5, 11] from 170 to 187 (fun e _ wr => e = .int .i64 E0 ∧ BlkT w wr [.string rn, (.slice q1 l1 j1), (.slice q2 l2 j2), (.slice q3 l3 j3), (.slice q4 l4 j4), .string ety, (.slice q5 l5 j5)] 49)
        case first =>
          go_wp2_with fail
          go_loopg [5, 11] 1 (fun gg e i wr => gg = 1 ∧ e = .int .i64 E0 ∧ i = .int .i64 0 ∧ BlkT w wr [.string rn, (.slice q1 l1 j1), (.slice q2 l2 j2), (.slice q3 l3 j3), (.slice q4 l4 j4), .string ety, (.slice q5 l5 j5)] 49)
          case atStart => exact ⟨rfl, rfl, rfl, HT.out⟩
          case round =>
            obtain ⟨rfl, rfl, rfl, hTr⟩ := hrel
            have HT2 := hid hTr
            have a1 : wr.cell? ⟨w.heap.size, 4, none⟩ = some (.slice q4 l4 j4) := hTr.c 4
            clear hTr
            by_cases hlt : 0 < l4
            . have i2 : (0 : Int) < (l4 : Int) := by omega
              go_wp2_with fail
              go_meet
              case rel => exact ⟨rfl, HT2.out⟩
            . first
              | (exfalso; omega)
              | (obtain rfl : l4 = 0 := by omega
                 go_wp2_with fail
                 go_meet
                 case rel => exact ⟨rfl, HT2.out⟩)
        case rest =>
          obtain ⟨rfl, hT9⟩ := hcut
          clear HT
          have HT := hid hT9
          clear hT9
          go_wp2_with fail
          go_ret
          exact ⟨rfl, HT.out.bel⟩
set_option maxHeartbeats 64000000 in
theorem ruleFault_size (ts : List Tp) (r : Rl) (hwf : (∀ t, t ∈ r.w → Wfc t.c) ∧ (∀ t, t ∈ r.t → Wfc t.c) ∧ (∀ m, m ∈ r.m → Wfc m.p.c)) (tv u1 u2 u3 u4 u5 : Value) (w : World) (hT : Rd w (.row 72 2 (ts.map encY)) tv) (h1 : Rd w (.row 65 18 (r.w.map encP)) u1) (h2 : Rd w (.row 65 18 (r.t.map encP)) u2) (h3 : Rd w (.row 68 20 (r.m.map encM)) u3) (h4 : Rd w (.row 103 3 (r.k.map encK)) u4) (h5 : Rd w (.row 61 6 (r.e.v.map encO)) u5) (E0 : Int) (hE : E0 = 1) (hf0 : frn r.n = 0) (hsz : ¬ szs r) :
    Calls Tryz.prog 36 #[tv, .agg #[.string r.n, u1, u2, u3, u4, .string r.e.ty, u5]] w fun e w' => e = .returned (.int .i64 E0) ∧ Below w.heap.size w w' := by
  subst hE
  obtain ⟨rn, ws, ns, ms, ks, ⟨ety, vs⟩⟩ := r
  simp only at hwf h1 h2 h3 h4 h5 hf0 hsz ⊢
  have HRT := hid hT
  have HR1 := hid h1
  have HR2 := hid h2
  have HR5 := hid h5
  obtain ⟨tp, tc, e0, m0, a0⟩ := rd_row lenY hT
  obtain ⟨q1, j1, e1, m1, a1⟩ := rd_row lenP h1
  obtain ⟨q2, j2, e2, m2, a2⟩ := rd_row lenP h2
  obtain ⟨q3, j3, e3, m3, a3⟩ := rd_row lenM h3
  obtain ⟨q4, j4, e4, m4, a4⟩ := rd_row lenK h4
  obtain ⟨q5, j5, e5, m5, a5⟩ := rd_row lenO h5
  subst e0 e1 e2 e3 e4 e5
  have hc1 := rd_cap h1
  obtain ⟨nt, hnt⟩ : ∃ l, ts.length = l := ⟨_, rfl⟩
  obtain ⟨l1, hl1⟩ : ∃ l, ws.length = l := ⟨_, rfl⟩
  obtain ⟨l2, hl2⟩ : ∃ l, ns.length = l := ⟨_, rfl⟩
  obtain ⟨l3, hl3⟩ : ∃ l, ms.length = l := ⟨_, rfl⟩
  obtain ⟨l4, hl4⟩ : ∃ l, ks.length = l := ⟨_, rfl⟩
  obtain ⟨l5, hl5⟩ : ∃ l, vs.length = l := ⟨_, rfl⟩
  rw [hnt] at HRT
  rw [hl1] at HR1 hc1
  rw [hl2] at HR2
  rw [hl5] at HR5
  unfold szs at hsz
  simp only at hsz
  rw [hl1, hl2, hl3, hl4] at hsz
  rw [hnt, hl1, hl2, hl3, hl4, hl5]
  have HC1 := hid hc1
  have HNT := hid hnt
  have HN1 := hid hl1
  have HN2 := hid hl2
  have HN3 := hid hl3
  have HN4 := hid hl4
  have HWF := hid hwf
  have HA0 : Hid (At encY 2 w tp ts) := a0
  have HA1 : Hid (At encP 18 w q1 ws) := a1
  have HA2 : Hid (At encP 18 w q2 ns) := a2
  have HA3 : Hid (At encM 20 w q3 ms) := a3
  have HA4 : Hid (At encK 3 w q4 ks) := a4
  have HT : Hid (BlkT w (w.alloc (.cells [.string rn, (.slice q1 l1 j1), (.slice q2 l2 j2), (.slice q3 l3 j3), (.slice q4 l4 j4), .string ety, (.slice q5 l5 j5)].toArray 49)) [.string rn, (.slice q1 l1 j1), (.slice q2 l2 j2), (.slice q3 l3 j3), (.slice q4 l4 j4), .string ety, (.slice q5 l5 j5)] 49) := BlkT.start w _ _
  have HFN : Hid (∀ W, Calls Tryz.prog 72 #[.string rn] W fun e w' => e = .returned (.int .i64 0) ∧ Below W.heap.size W w') := fun W => by rw [← hf0]; exact freeName_any rn W
  by_cases hin : 1 ≤ l1 ∧ l1 ≤ 3
  . have HIN : Hid (∀ W, Calls Tryz.prog 17 #[.int .i64 (l1 : Int), .int .i64 1, .int .i64 3] W fun e w' => e = .returned (.bool true) ∧ w' = W) := fun W => in_any (l1 : Int) _ _ true (say_true (by omega)) W
    rcases (by omega : 2 < l2 ∨ (¬ 2 < l2 ∧ 2 < l3) ∨ (¬ 2 < l2 ∧ ¬ 2 < l3 ∧ 6 < l4)) with c2 | ⟨c2, c3⟩ | ⟨c2, c3, c4⟩
    . have c2' : (2 : Int) < (l2 : Int) := by omega
      have cs : ∀ W, BlkT w W [.string rn, (.slice q1 l1 j1), (.slice q2 l2 j2), (.slice q3 l3 j3), (.slice q4 l4 j4), .string ety, (.slice q5 l5 j5)] 49 → W.cell? ⟨w.heap.size, 1, none⟩ = some (.slice q1 l1 j1) ∧ W.cell? ⟨w.heap.size, 2, none⟩ = some (.slice q2 l2 j2) ∧ W.cell? ⟨w.heap.size, 3, none⟩ = some (.slice q3 l3 j3) ∧ W.cell? ⟨w.heap.size, 4, none⟩ = some (.slice q4 l4 j4) := fun W h => ⟨h.c 1, h.c 2, h.c 3, h.c 4⟩
      have HCS := hid cs
      clear cs hT h1 h2 h3 h4 h5 a0 a1 a2 a3 a4 a5 hnt hl1 hl2 hl3 hl4 hl5 hf0 hsz hwf hc1
      go_enter Tryz.func36, Tryz.ntmps36
      go_upto_block 0 with (first
        | (go_at_call 17; refine (HIN.out _).mono ?_; rintro e w' ⟨rfl, rfl⟩)
        | (go_at_call 72; refine (HFN.out _).mono ?_; rintro e w2 ⟨rfl, hb_⟩; have HT2 : Hid _ := HT.out.next hb_; obtain ⟨g1, g2, g3, g4⟩ := HCS.out _ HT2.out; clear hb_))
      clear HT g1 g2 g3 g4
      have HT := HT2
      clear HT2
      go_upto_block 0 with fail
      go_cut [5, 7] from 42 to 73 (fun e _ wr => e = .int .i64 1 ∧ BlkT w wr [.string rn, (.slice q1 l1 j1), (.slice q2 l2 j2), (.slice q3 l3 j3), (.slice q4 l4 j4), .string ety, (.slice q5 l5 j5)] 49)
      case first =>
        go_wp2_with fail
        go_loopg [5, 7] 1 (fun gg e i wr => gg = 1 ∧ e = .int .i64 1 ∧ i = .int .i64 0 ∧ BlkT w wr [.string rn, (.slice q1 l1 j1), (.slice q2 l2 j2), (.slice q3 l3 j3), (.slice q4 l4 j4), .string ety, (.slice q5 l5 j5)] 49)
        case atStart => exact ⟨rfl, rfl, rfl, HT.out⟩
        case round =>
          obtain ⟨rfl, rfl, rfl, hTr⟩ := hrel
          have HT2 := hid hTr
          have a1 : wr.cell? ⟨w.heap.size, 1, none⟩ = some (.slice q1 l1 j1) := hTr.c 1
          clear hTr
          by_cases hlt : 0 < l1
          . have i2 : (0 : Int) < (l1 : Int) := by omega
            go_wp2_with fail
            go_meet
            case rel => exact ⟨rfl, HT2.out⟩
          . first
            | (exfalso; omega)
            | (obtain rfl : l1 = 0 := by omega
               go_wp2_with fail
               go_meet
               case rel => exact ⟨rfl, HT2.out⟩)
      case rest =>
        obtain ⟨rfl, hT9⟩ := hcut
        clear HT
        have HT := hid hT9
        clear hT9
        go_upto_block 2 with fail
        go_cut [5, 8] from 74 to 103 (fun e _ wr => e = .int .i64 1 ∧ BlkT w wr [.string rn, (.slice q1 l1 j1), (.slice q2 l2 j2), (.slice q3 l3 j3), (.slice q4 l4 j4), .string ety, (.slice q5 l5 j5)] 49)
        case first =>
          go_wp2_with fail
          go_loopg [5, 8] 1 (fun gg e i wr => gg = 1 ∧ e = .int .i64 1 ∧ i = .int .i64 0 ∧ BlkT w wr [.string rn, (.slice q1 l1 j1), (.slice q2 l2 j2), (.slice q3 l3 j3), (.slice q4 l4 j4), .string ety, (.slice q5 l5 j5)] 49)
          case atStart => exact ⟨rfl, rfl, rfl, HT.out⟩
          case round =>
            obtain ⟨rfl, rfl, rfl, hTr⟩ := hrel
            have HT2 := hid hTr
            have a1 : wr.cell? ⟨w.heap.size, 2, none⟩ = some (.slice q2 l2 j2) := hTr.c 2
            clear hTr
            by_cases hlt : 0 < l2
            . have i2 : (0 : Int) < (l2 : Int) := by omega
              go_wp2_with fail
              go_meet
              case rel => exact ⟨rfl, HT2.out⟩
            . first
              | (exfalso; omega)
              | (obtain rfl : l2 = 0 := by omega
                 go_wp2_with fail
                 go_meet
                 case rel => exact ⟨rfl, HT2.out⟩)
        case rest =>
          obtain ⟨rfl, hT9⟩ := hcut
          clear HT
          have HT := hid hT9
          clear hT9
          go_upto_block 4 with fail
          go_cut [5, 9] from 104 to 169 (fun e _ wr => e = .int .i64 1 ∧ BlkT w wr [.string rn, (.slice q1 l1 j1), (.slice q2 l2 j2), (.slice q3 l3 j3), (.slice q4 l4 j4), .string ety, (.slice q5 l5 j5)] 49)
          case first =>
            go_wp2_with fail
            go_loopg [5, 9] 1 (fun gg e i wr => gg = 1 ∧ e = .int .i64 1 ∧ i = .int .i64 0 ∧ BlkT w wr [.string rn, (.slice q1 l1 j1), (.slice q2 l2 j2), (.slice q3 l3 j3), (.slice q4 l4 j4), .string ety, (.slice q5 l5 j5)] 49)
            case atStart => exact ⟨rfl, rfl, rfl, HT.out⟩
            case round =>
              obtain ⟨rfl, rfl, rfl, hTr⟩ := hrel
              have HT2 := hid hTr
              have a1 : wr.cell? ⟨w.heap.size, 3, none⟩ = some (.slice q3 l3 j3) := hTr.c 3
              clear hTr
              by_cases hlt : 0 < l3
              . have i2 : (0 : Int) < (l3 : Int) := by omega
                go_wp2_with fail
                go_meet
                case rel => exact ⟨rfl, HT2.out⟩
              . first
                | (exfalso; omega)
                | (obtain rfl : l3 = 0 := by omega
                   go_wp2_with fail
                   go_meet
                   case rel => exact ⟨rfl, HT2.out⟩)
          case rest =>
            obtain ⟨rfl, hT9⟩ := hcut
            clear HT
            have HT := hid hT9
            clear hT9
            go_upto_block 6 with fail
            go_cut [5, 11] from 170 to 187 (fun e _ wr => e = .int .i64 1 ∧ BlkT w wr [.string rn, (.slice q1 l1 j1), (.slice q2 l2 j2), (.slice q3 l3 j3), (.slice q4 l4 j4), .string ety, (.slice q5 l5 j5)] 49)
            case first =>
              go_wp2_with fail
              go_loopg [5, 11] 1 (fun gg e i wr => gg = 1 ∧ e = .int .i64 1 ∧ i = .int .i64 0 ∧ BlkT w wr [.string rn, (.slice q1 l1 j1), (.slice q2 l2 j2), (.slice q3 l3 j3), (.slice q4 l4 j4), .string ety, (.slice q5 l5 j5)] 49)
              case atStart => exact ⟨rfl, rfl, rfl, HT.out⟩
              case round =>
                obtain ⟨rfl, rfl, rfl, hTr⟩ := hrel
                have HT2 := hid hTr
                have a1 : wr.cell? ⟨w.heap.size, 4, none⟩ = some (.slice q4 l4 j4) := hTr.c 4
                clear hTr
                by_cases hlt : 0 < l4
                . have i2 : (0 : Int) < (l4 : Int) := by omega
                  go_wp2_with fail
                  go_meet
                  case rel => exact ⟨rfl, HT2.out⟩
                . first
                  | (exfalso; omega)
                  | (obtain rfl : l4 = 0 := by omega
                     go_wp2_with fail
                     go_meet
                     case rel => exact ⟨rfl, HT2.out⟩)
            case rest =>
              obtain ⟨rfl, hT9⟩ := hcut
              clear HT
              have HT := hid hT9
              clear hT9
              go_wp2_with fail
              go_ret
              exact ⟨rfl, HT.out.bel⟩
    . have c2' : ¬ (2 : Int) < (l2 : Int) := by omega
      have c3' : (2 : Int) < (l3 : Int) := by omega
      have cs : ∀ W, BlkT w W [.string rn, (.slice q1 l1 j1), (.slice q2 l2 j2), (.slice q3 l3 j3), (.slice q4 l4 j4), .string ety, (.slice q5 l5 j5)] 49 → W.cell? ⟨w.heap.size, 1, none⟩ = some (.slice q1 l1 j1) ∧ W.cell? ⟨w.heap.size, 2, none⟩ = some (.slice q2 l2 j2) ∧ W.cell? ⟨w.heap.size, 3, none⟩ = some (.slice q3 l3 j3) ∧ W.cell? ⟨w.heap.size, 4, none⟩ = some (.slice q4 l4 j4) := fun W h => ⟨h.c 1, h.c 2, h.c 3, h.c 4⟩
      have HCS := hid cs
      clear cs hT h1 h2 h3 h4 h5 a0 a1 a2 a3 a4 a5 hnt hl1 hl2 hl3 hl4 hl5 hf0 hsz hwf hc1
      go_enter Tryz.func36, Tryz.ntmps36
      go_upto_block 0 with (first
        | (go_at_call 17; refine (HIN.out _).mono ?_; rintro e w' ⟨rfl, rfl⟩)
        | (go_at_call 72; refine (HFN.out _).mono ?_; rintro e w2 ⟨rfl, hb_⟩; have HT2 : Hid _ := HT.out.next hb_; obtain ⟨g1, g2, g3, g4⟩ := HCS.out _ HT2.out; clear hb_))
      clear HT g1 g2 g3 g4
      have HT := HT2
      clear HT2
      go_upto_block 0 with fail
      go_cut [5, 7] from 42 to 73 (fun e _ wr => e = .int .i64 1 ∧ BlkT w wr [.string rn, (.slice q1 l1 j1), (.slice q2 l2 j2), (.slice q3 l3 j3), (.slice q4 l4 j4), .string ety, (.slice q5 l5 j5)] 49)
      case first =>
        go_wp2_with fail
        go_loopg [5, 7] 1 (fun gg e i wr => gg = 1 ∧ e = .int .i64 1 ∧ i = .int .i64 0 ∧ BlkT w wr [.string rn, (.slice q1 l1 j1), (.slice q2 l2 j2), (.slice q3 l3 j3), (.slice q4 l4 j4), .string ety, (.slice q5 l5 j5)] 49)
        case atStart => exact ⟨rfl, rfl, rfl, HT.out⟩
        case round =>
          obtain ⟨rfl, rfl, rfl, hTr⟩ := hrel
          have HT2 := hid hTr
          have a1 : wr.cell? ⟨w.heap.size, 1, none⟩ = some (.slice q1 l1 j1) := hTr.c 1
          clear hTr
          by_cases hlt : 0 < l1
          . have i2 : (0 : Int) < (l1 : Int) := by omega
            go_wp2_with fail
            go_meet
            case rel => exact ⟨rfl, HT2.out⟩
          . first
            | (exfalso; omega)
            | (obtain rfl : l1 = 0 := by omega
               go_wp2_with fail
               go_meet
               case rel => exact ⟨rfl, HT2.out⟩)
      case rest =>
        obtain ⟨rfl, hT9⟩ := hcut
        clear HT
        have HT := hid hT9
        clear hT9
        go_upto_block 2 with fail
        go_cut [5, 8] from 74 to 103 (fun e _ wr => e = .int .i64 1 ∧ BlkT w wr [.string rn, (.slice q1 l1 j1), (.slice q2 l2 j2), (.slice q3 l3 j3), (.slice q4 l4 j4), .string ety, (.slice q5 l5 j5)] 49)
        case first =>
          go_wp2_with fail
          go_loopg [5, 8] 1 (fun gg e i wr => gg = 1 ∧ e = .int .i64 1 ∧ i = .int .i64 0 ∧ BlkT w wr [.string rn, (.slice q1 l1 j1), (.slice q2 l2 j2), (.slice q3 l3 j3), (.slice q4 l4 j4), .string ety, (.slice q5 l5 j5)] 49)
          case atStart => exact ⟨rfl, rfl, rfl, HT.out⟩
          case round =>
            obtain ⟨rfl, rfl, rfl, hTr⟩ := hrel
            have HT2 := hid hTr
            have a1 : wr.cell? ⟨w.heap.size, 2, none⟩ = some (.slice q2 l2 j2) := hTr.c 2
            clear hTr
            by_cases hlt : 0 < l2
            . have i2 : (0 : Int) < (l2 : Int) := by omega
              go_wp2_with fail
              go_meet
              case rel => exact ⟨rfl, HT2.out⟩
            . first
              | (exfalso; omega)
              | (obtain rfl : l2 = 0 := by omega
                 go_wp2_with fail
                 go_meet
                 case rel => exact ⟨rfl, HT2.out⟩)
        case rest =>
          obtain ⟨rfl, hT9⟩ := hcut
          clear HT
          have HT := hid hT9
          clear hT9
          go_upto_block 4 with fail
          go_cut [5, 9] from 104 to 169 (fun e _ wr => e = .int .i64 1 ∧ BlkT w wr [.string rn, (.slice q1 l1 j1), (.slice q2 l2 j2), (.slice q3 l3 j3), (.slice q4 l4 j4), .string ety, (.slice q5 l5 j5)] 49)
          case first =>
            go_wp2_with fail
            go_loopg [5, 9] 1 (fun gg e i wr => gg = 1 ∧ e = .int .i64 1 ∧ i = .int .i64 0 ∧ BlkT w wr [.string rn, (.slice q1 l1 j1), (.slice q2 l2 j2), (.slice q3 l3 j3), (.slice q4 l4 j4), .string ety, (.slice q5 l5 j5)] 49)
            case atStart => exact ⟨rfl, rfl, rfl, HT.out⟩
            case round =>
              obtain ⟨rfl, rfl, rfl, hTr⟩ := hrel
              have HT2 := hid hTr
              have a1 : wr.cell? ⟨w.heap.size, 3, none⟩ = some (.slice q3 l3 j3) := hTr.c 3
              clear hTr
              by_cases hlt : 0 < l3
              . have i2 : (0 : Int) < (l3 : Int) := by omega
                go_wp2_with fail
                go_meet
                case rel => exact ⟨rfl, HT2.out⟩
              . first
                | (exfalso; omega)
                | (obtain rfl : l3 = 0 := by omega
                   go_wp2_with fail
                   go_meet
                   case rel => exact ⟨rfl, HT2.out⟩)
          case rest =>
            obtain ⟨rfl, hT9⟩ := hcut
            clear HT
            have HT := hid hT9
            clear hT9
            go_upto_block 6 with fail
            go_cut [5, 11] from 170 to 187 (fun e _ wr => e = .int .i64 1 ∧ BlkT w wr [.string rn, (.slice q1 l1 j1), (.slice q2 l2 j2), (.slice q3 l3 j3), (.slice q4 l4 j4), .string ety, (.slice q5 l5 j5)] 49)
            case first =>
              go_wp2_with fail
              go_loopg [5, 11] 1 (fun gg e i wr => gg = 1 ∧ e = .int .i64 1 ∧ i = .int .i64 0 ∧ BlkT w wr [.string rn, (.slice q1 l1 j1), (.slice q2 l2 j2), (.slice q3 l3 j3), (.slice q4 l4 j4), .string ety, (.slice q5 l5 j5)] 49)
              case atStart => exact ⟨rfl, rfl, rfl, HT.out⟩
              case round =>
                obtain ⟨rfl, rfl, rfl, hTr⟩ := hrel
                have HT2 := hid hTr
                have a1 : wr.cell? ⟨w.heap.size, 4, none⟩ = some (.slice q4 l4 j4) := hTr.c 4
                clear hTr
                by_cases hlt : 0 < l4
                . have i2 : (0 : Int) < (l4 : Int) := by omega
                  go_wp2_with fail
                  go_meet
                  case rel => exact ⟨rfl, HT2.out⟩
                . first
                  | (exfalso; omega)
                  | (obtain rfl : l4 = 0 := by omega
                     go_wp2_with fail
                     go_meet
                     case rel => exact ⟨rfl, HT2.out⟩)
            case rest =>
              obtain ⟨rfl, hT9⟩ := hcut
              clear HT
              have HT := hid hT9
              clear hT9
              go_wp2_with fail
              go_ret
              exact ⟨rfl, HT.out.bel⟩
    . have c2' : ¬ (2 : Int) < (l2 : Int) := by omega
      have c3' : ¬ (2 : Int) < (l3 : Int) := by omega
      have c4' : (6 : Int) < (l4 : Int) := by omega
      have cs : ∀ W, BlkT w W [.string rn, (.slice q1 l1 j1), (.slice q2 l2 j2), (.slice q3 l3 j3), (.slice q4 l4 j4), .string ety, (.slice q5 l5 j5)] 49 → W.cell? ⟨w.heap.size, 1, none⟩ = some (.slice q1 l1 j1) ∧ W.cell? ⟨w.heap.size, 2, none⟩ = some (.slice q2 l2 j2) ∧ W.cell? ⟨w.heap.size, 3, none⟩ = some (.slice q3 l3 j3) ∧ W.cell? ⟨w.heap.size, 4, none⟩ = some (.slice q4 l4 j4) := fun W h => ⟨h.c 1, h.c 2, h.c 3, h.c 4⟩
      have HCS := hid cs
      clear cs hT h1 h2 h3 h4 h5 a0 a1 a2 a3 a4 a5 hnt hl1 hl2 hl3 hl4 hl5 hf0 hsz hwf hc1
      go_enter Tryz.func36, Tryz.ntmps36
      go_upto_block 0 with (first
        | (go_at_call 17; refine (HIN.out _).mono ?_; rintro e w' ⟨rfl, rfl⟩)
        | (go_at_call 72; refine (HFN.out _).mono ?_; rintro e w2 ⟨rfl, hb_⟩; have HT2 : Hid _ := HT.out.next hb_; obtain ⟨g1, g2, g3, g4⟩ := HCS.out _ HT2.out; clear hb_))
      clear HT g1 g2 g3 g4
      have HT := HT2
      clear HT2
      go_upto_block 0 with fail
      go_cut [5, 7] from 42 to 73 (fun e _ wr => e = .int .i64 1 ∧ BlkT w wr [.string rn, (.slice q1 l1 j1), (.slice q2 l2 j2), (.slice q3 l3 j3), (.slice q4 l4 j4), .string ety, (.slice q5 l5 j5)] 49)
      case first =>
        go_wp2_with fail
        go_loopg [5, 7] 1 (fun gg e i wr => gg = 1 ∧ e = .int .i64 1 ∧ i = .int .i64 0 ∧ BlkT w wr [.string rn, (.slice q1 l1 j1), (.slice q2 l2 j2), (.slice q3 l3 j3), (.slice q4 l4 j4), .string ety, (.slice q5 l5 j5)] 49)
        case atStart => exact ⟨rfl, rfl, rfl, HT.out⟩
        case round =>
          obtain ⟨rfl, rfl, rfl, hTr⟩ := hrel
          have HT2 := hid hTr
          have a1 : wr.cell? ⟨w.heap.size, 1, none⟩ = some (.slice q1 l1 j1) := hTr.c 1
          clear hTr
          by_cases hlt : 0 < l1
          . have i2 : (0 : Int) < (l1 : Int) := by omega
            go_wp2_with fail
            go_meet
            case rel => exact ⟨rfl, HT2.out⟩
          . first
            | (exfalso; omega)
            | (obtain rfl : l1 = 0 := by omega
               go_wp2_with fail
               go_meet
               case rel => exact ⟨rfl, HT2.out⟩)
      case rest =>
        obtain ⟨rfl, hT9⟩ := hcut
        clear HT
        have HT := hid hT9
        clear hT9
        go_upto_block 2 with fail
        go_cut [5, 8] from 74 to 103 (fun e _ wr => e = .int .i64 1 ∧ BlkT w wr [.string rn, (.slice q1 l1 j1), (.slice q2 l2 j2), (.slice q3 l3 j3), (.slice q4 l4 j4), .string ety, (.slice q5 l5 j5)] 49)
        case first =>
          go_wp2_with fail
          go_loopg [5, 8] 1 (fun gg e i wr => gg = 1 ∧ e = .int .i64 1 ∧ i = .int .i64 0 ∧ BlkT w wr [.string rn, (.slice q1 l1 j1), (.slice q2 l2 j2), (.slice q3 l3 j3), (.slice q4 l4 j4), .string ety, (.slice q5 l5 j5)] 49)
          case atStart => exact ⟨rfl, rfl, rfl, HT.out⟩
          case round =>
            obtain ⟨rfl, rfl, rfl, hTr⟩ := hrel
            have HT2 := hid hTr
            have a1 : wr.cell? ⟨w.heap.size, 2, none⟩ = some (.slice q2 l2 j2) := hTr.c 2
            clear hTr
            by_cases hlt : 0 < l2
            . have i2 : (0 : Int) < (l2 : Int) := by omega
              go_wp2_with fail
              go_meet
              case rel => exact ⟨rfl, HT2.out⟩
            . first
              | (exfalso; omega)
              | (obtain rfl : l2 = 0 := by omega
                 go_wp2_with fail
                 go_meet
                 case rel => exact ⟨rfl, HT2.out⟩)
        case rest =>
          obtain ⟨rfl, hT9⟩ := hcut
          clear HT
          have HT := hid hT9
          clear hT9
          go_upto_block 4 with fail
          go_cut [5, 9] from 104 to 169 (fun e _ wr => e = .int .i64 1 ∧ BlkT w wr [.string rn, (.slice q1 l1 j1), (.slice q2 l2 j2), (.slice q3 l3 j3), (.slice q4 l4 j4), .string ety, (.slice q5 l5 j5)] 49)
          case first =>
            go_wp2_with fail
            go_loopg [5, 9] 1 (fun gg e i wr => gg = 1 ∧ e = .int .i64 1 ∧ i = .int .i64 0 ∧ BlkT w wr [.string rn, (.slice q1 l1 j1), (.slice q2 l2 j2), (.slice q3 l3 j3), (.slice q4 l4 j4), .string ety, (.slice q5 l5 j5)] 49)
            case atStart => exact ⟨rfl, rfl, rfl, HT.out⟩
            case round =>
              obtain ⟨rfl, rfl, rfl, hTr⟩ := hrel
              have HT2 := hid hTr
              have a1 : wr.cell? ⟨w.heap.size, 3, none⟩ = some (.slice q3 l3 j3) := hTr.c 3
              clear hTr
              by_cases hlt : 0 < l3
              . have i2 : (0 : Int) < (l3 : Int) := by omega
                go_wp2_with fail
                go_meet
                case rel => exact ⟨rfl, HT2.out⟩
              . first
                | (exfalso; omega)
                | (obtain rfl : l3 = 0 := by omega
                   go_wp2_with fail
                   go_meet
                   case rel => exact ⟨rfl, HT2.out⟩)
          case rest =>
            obtain ⟨rfl, hT9⟩ := hcut
            clear HT
            have HT := hid hT9
            clear hT9
            go_upto_block 6 with fail
            go_cut [5, 11] from 170 to 187 (fun e _ wr => e = .int .i64 1 ∧ BlkT w wr [.string rn, (.slice q1 l1 j1), (.slice q2 l2 j2), (.slice q3 l3 j3), (.slice q4 l4 j4), .string ety, (.slice q5 l5 j5)] 49)
            case first =>
              go_wp2_with fail
              go_loopg [5, 11] 1 (fun gg e i wr => gg = 1 ∧ e = .int .i64 1 ∧ i = .int .i64 0 ∧ BlkT w wr [.string rn, (.slice q1 l1 j1), (.slice q2 l2 j2), (.slice q3 l3 j3), (.slice q4 l4 j4), .string ety, (.slice q5 l5 j5)] 49)
              case atStart => exact ⟨rfl, rfl, rfl, HT.out⟩
              case round =>
                obtain ⟨rfl, rfl, rfl, hTr⟩ := hrel
                have HT2 := hid hTr
                have a1 : wr.cell? ⟨w.heap.size, 4, none⟩ = some (.slice q4 l4 j4) := hTr.c 4
                clear hTr
                by_cases hlt : 0 < l4
                . have i2 : (0 : Int) < (l4 : Int) := by omega
                  go_wp2_with fail
                  go_meet
                  case rel => exact ⟨rfl, HT2.out⟩
                . first
                  | (exfalso; omega)
                  | (obtain rfl : l4 = 0 := by omega
                     go_wp2_with fail
                     go_meet
                     case rel => exact ⟨rfl, HT2.out⟩)
            case rest =>
              obtain ⟨rfl, hT9⟩ := hcut
              clear HT
              have HT := hid hT9
              clear hT9
              go_wp2_with fail
              go_ret
              exact ⟨rfl, HT.out.bel⟩
  . have HIN : Hid (∀ W, Calls Tryz.prog 17 #[.int .i64 (l1 : Int), .int .i64 1, .int .i64 3] W fun e w' => e = .returned (.bool false) ∧ w' = W) := fun W => in_any (l1 : Int) _ _ false (say_false (by omega)) W
    have cs : ∀ W, BlkT w W [.string rn, (.slice q1 l1 j1), (.slice q2 l2 j2), (.slice q3 l3 j3), (.slice q4 l4 j4), .string ety, (.slice q5 l5 j5)] 49 → W.cell? ⟨w.heap.size, 1, none⟩ = some (.slice q1 l1 j1) ∧ W.cell? ⟨w.heap.size, 2, none⟩ = some (.slice q2 l2 j2) ∧ W.cell? ⟨w.heap.size, 3, none⟩ = some (.slice q3 l3 j3) ∧ W.cell? ⟨w.heap.size, 4, none⟩ = some (.slice q4 l4 j4) := fun W h => ⟨h.c 1, h.c 2, h.c 3, h.c 4⟩
    have HCS := hid cs
    clear cs hT h1 h2 h3 h4 h5 a0 a1 a2 a3 a4 a5 hnt hl1 hl2 hl3 hl4 hl5 hf0 hsz hwf hc1
    go_enter Tryz.func36, Tryz.ntmps36
    go_upto_block 0 with (first
      | (go_at_call 17; refine (HIN.out _).mono ?_; rintro e w' ⟨rfl, rfl⟩)
      | (go_at_call 72; refine (HFN.out _).mono ?_; rintro e w2 ⟨rfl, hb_⟩; have HT2 : Hid _ := HT.out.next hb_; obtain ⟨g1, g2, g3, g4⟩ := HCS.out _ HT2.out; clear hb_))
    clear HT g1 g2 g3 g4
    have HT := HT2
    clear HT2
    go_upto_block 0 with fail
    go_cut [5, 7] from 42 to 73 (fun e _ wr => e = .int .i64 1 ∧ BlkT w wr [.string rn, (.slice q1 l1 j1), (.slice q2 l2 j2), (.slice q3 l3 j3), (.slice q4 l4 j4), .string ety, (.slice q5 l5 j5)] 49)
    case first =>
      go_wp2_with fail
      go_loopg [5, 7] 1 (fun gg e i wr => gg = 1 ∧ e = .int .i64 1 ∧ i = .int .i64 0 ∧ BlkT w wr [.string rn, (.slice q1 l1 j1), (.slice q2 l2 j2), (.slice q3 l3 j3), (.slice q4 l4 j4), .string ety, (.slice q5 l5 j5)] 49)
      case atStart => exact ⟨rfl, rfl, rfl, HT.out⟩
      case round =>
        obtain ⟨rfl, rfl, rfl, hTr⟩ := hrel
        have HT2 := hid hTr
        have a1 : wr.cell? ⟨w.heap.size, 1, none⟩ = some (.slice q1 l1 j1) := hTr.c 1
        clear hTr
        by_cases hlt : 0 < l1
        . have i2 : (0 : Int) < (l1 : Int) := by omega
          go_wp2_with fail
          go_meet
          case rel => exact ⟨rfl, HT2.out⟩
        . first
          | (exfalso; omega)
          | (obtain rfl : l1 = 0 := by omega
             go_wp2_with fail
             go_meet
             case rel => exact ⟨rfl, HT2.out⟩)
    case rest =>
      obtain ⟨rfl, hT9⟩ := hcut
      clear HT
      have HT := hid hT9
      clear hT9
      go_upto_block 2 with fail
      go_cut [5, 8] from 74 to 103 (fun e _ wr => e = .int .i64 1 ∧ BlkT w wr [.string rn, (.slice q1 l1 j1), (.slice q2 l2 j2), (.slice q3 l3 j3), (.slice q4 l4 j4), .string ety, (.slice q5 l5 j5)] 49)
      case first =>
        go_wp2_with fail
        go_loopg [5, 8] 1 (fun gg e i wr => gg = 1 ∧ e = .int .i64 1 ∧ i = .int .i64 0 ∧ BlkT w wr [.string rn, (.slice q1 l1 j1), (.slice q2 l2 j2), (.slice q3 l3 j3), (.slice q4 l4 j4), .string ety, (.slice q5 l5 j5)] 49)
        case atStart => exact ⟨rfl, rfl, rfl, HT.out⟩
        case round =>
          obtain ⟨rfl, rfl, rfl, hTr⟩ := hrel
          have HT2 := hid hTr
          have a1 : wr.cell? ⟨w.heap.size, 2, none⟩ = some (.slice q2 l2 j2) := hTr.c 2
          clear hTr
          by_cases hlt : 0 < l2
          . have i2 : (0 : Int) < (l2 : Int) := by omega
            go_wp2_with fail
            go_meet
            case rel => exact ⟨rfl, HT2.out⟩
          . first
            | (exfalso; omega)
            | (obtain rfl : l2 = 0 := by omega
               go_wp2_with fail
               go_meet
               case rel => exact ⟨rfl, HT2.out⟩)
      case rest =>
        obtain ⟨rfl, hT9⟩ := hcut
        clear HT
        have HT := hid hT9
        clear hT9
        go_upto_block 4 with fail
        go_cut [5, 9] from 104 to 169 (fun e _ wr => e = .int .i64 1 ∧ BlkT w wr [.string rn, (.slice q1 l1 j1), (.slice q2 l2 j2), (.slice q3 l3 j3), (.slice q4 l4 j4), .string ety, (.slice q5 l5 j5)] 49)
        case first =>
          go_wp2_with fail
          go_loopg [5, 9] 1 (fun gg e i wr => gg = 1 ∧ e = .int .i64 1 ∧ i = .int .i64 0 ∧ BlkT w wr [.string rn, (.slice q1 l1 j1), (.slice q2 l2 j2), (.slice q3 l3 j3), (.slice q4 l4 j4), .string ety, (.slice q5 l5 j5)] 49)
          case atStart => exact ⟨rfl, rfl, rfl, HT.out⟩
          case round =>
            obtain ⟨rfl, rfl, rfl, hTr⟩ := hrel
            have HT2 := hid hTr
            have a1 : wr.cell? ⟨w.heap.size, 3, none⟩ = some (.slice q3 l3 j3) := hTr.c 3
            clear hTr
            by_cases hlt : 0 < l3
            . have i2 : (0 : Int) < (l3 : Int) := by omega
              go_wp2_with fail
              go_meet
              case rel => exact ⟨rfl, HT2.out⟩
            . first
              | (exfalso; omega)
              | (obtain rfl : l3 = 0 := by omega
                 go_wp2_with fail
                 go_meet
                 case rel => exact ⟨rfl, HT2.out⟩)
        case rest =>
          obtain ⟨rfl, hT9⟩ := hcut
          clear HT
          have HT := hid hT9
          clear hT9
          go_upto_block 6 with fail
          go_cut [5, 11] from 170 to 187 (fun e _ wr => e = .int .i64 1 ∧ BlkT w wr [.string rn, (.slice q1 l1 j1), (.slice q2 l2 j2), (.slice q3 l3 j3), (.slice q4 l4 j4), .string ety, (.slice q5 l5 j5)] 49)
          case first =>
            go_wp2_with fail
            go_loopg [5, 11] 1 (fun gg e i wr => gg = 1 ∧ e = .int .i64 1 ∧ i = .int .i64 0 ∧ BlkT w wr [.string rn, (.slice q1 l1 j1), (.slice q2 l2 j2), (.slice q3 l3 j3), (.slice q4 l4 j4), .string ety, (.slice q5 l5 j5)] 49)
            case atStart => exact ⟨rfl, rfl, rfl, HT.out⟩
            case round =>
              obtain ⟨rfl, rfl, rfl, hTr⟩ := hrel
              have HT2 := hid hTr
              have a1 : wr.cell? ⟨w.heap.size, 4, none⟩ = some (.slice q4 l4 j4) := hTr.c 4
              clear hTr
              by_cases hlt : 0 < l4
              . have i2 : (0 : Int) < (l4 : Int) := by omega
                go_wp2_with fail
                go_meet
                case rel => exact ⟨rfl, HT2.out⟩
              . first
                | (exfalso; omega)
                | (obtain rfl : l4 = 0 := by omega
                   go_wp2_with fail
                   go_meet
                   case rel => exact ⟨rfl, HT2.out⟩)
          case rest =>
            obtain ⟨rfl, hT9⟩ := hcut
            clear HT
            have HT := hid hT9
            clear hT9
            go_wp2_with fail
            go_ret
            exact ⟨rfl, HT.out.bel⟩
theorem ruleFault_any (ts : List Tp) (r : Rl) (hwf : (∀ t, t ∈ r.w → Wfc t.c) ∧ (∀ t, t ∈ r.t → Wfc t.c) ∧ (∀ m, m ∈ r.m → Wfc m.p.c)) (tv u1 u2 u3 u4 u5 : Value) (w : World) (hT : Rd w (.row 72 2 (ts.map encY)) tv) (h1 : Rd w (.row 65 18 (r.w.map encP)) u1) (h2 : Rd w (.row 65 18 (r.t.map encP)) u2) (h3 : Rd w (.row 68 20 (r.m.map encM)) u3) (h4 : Rd w (.row 103 3 (r.k.map encK)) u4) (h5 : Rd w (.row 61 6 (r.e.v.map encO)) u5) :
   Calls Tryz.prog 36 #[tv, .agg #[.string r.n, u1, u2, u3, u4, .string r.e.ty, u5]] w fun e w' => e = .returned (.int .i64 (rck ts r)) ∧ Below w.heap.size w w' := by
 unfold rck
 by_cases hf : frn r.n = 0
 . rw [if_neg (fun c => c hf)]
   by_cases hs : szs r
   . rw [if_neg (fun c => c hs)]
     exact ruleFault_ok ts r hwf tv u1 u2 u3 u4 u5 w hT h1 h2 h3 h4 h5 hf hs
   . rw [if_pos hs]
     exact ruleFault_size ts r hwf tv u1 u2 u3 u4 u5 w hT h1 h2 h3 h4 h5 1 rfl hf hs
 . rw [if_pos hf]
   exact ruleFault_name ts r hwf tv u1 u2 u3 u4 u5 w hT h1 h2 h3 h4 h5 _ rfl hf
def Wfr (r : Rl) : Prop := (∀ t, t ∈ r.w → Wfc t.c) ∧ (∀ t, t ∈ r.t → Wfc t.c) ∧ (∀ m, m ∈ r.m → Wfc m.p.c)
def bok (ts : List Tp) (rs : List Rl) : Int := bkf (rck ts) ts rs
theorem bookFault_any (ts : List Tp) (rs : List Rl) (hwf : ∀ r, r ∈ rs → Wfr r) (tv rv : Value) (w : World) (hT : Rd w (.row 72 2 (ts.map encY)) tv) (hR : Rd w (.row 49 7 (rs.map encR)) rv) :
  Calls Tryz.prog 16 #[.agg #[tv, rv]] w fun e w' => e = .returned (.int .i64 (bok ts rs)) ∧ Below w.heap.size w w' :=
 bookFault_of (rck ts) ts rs tv rv w hT hR fun x hx W us hW hl => by
  obtain ⟨v1, v2, v3, v4, v5, rfl, h1, h2, h3, h4, h5⟩ := rdR hl
  exact ruleFault_any ts x (hwf x hx) tv v1 v2 v3 v4 v5 W (hT.later hW) h1 h2 h3 h4 h5
end Go.Proofs.YthndlfdbmljkhaaGreatDoor.Chk
namespace Go.Proofs.YthndlfdbmljkhaaGreatDoor.V4
open Go.ChangeShapes Go.WideShapes Go.ChangeAt Go.RowKit
set_option linter.unusedVariables false
set_option linter.unusedSimpArgs false
set_option maxRecDepth 20000
structure Vl where
  k : Int
  n : Int
  s : ByteArray
structure Fd where
  s : ByteArray
  k : Int
structure Ty where
  s : ByteArray
  fs : List Fd
def eqS (a b : ByteArray) : Bool := a.toList == b.toList
def vchk (v : Vl) : Int :=
  if v.k ≠ 1 ∧ v.k ≠ 2 then 3
  else if (v.k = 1 ∧ v.s.toList ≠ []) ∨ (v.k = 2 ∧ v.n ≠ 0) then 4
  else if 20 < v.s.size then 1
  else if v.n < -1125899906842624 ∨ 1125899906842624 < v.n then 2 else 0
def fst (f : Nat → Int) : Nat → Int
  | 0 => 0
  | n + 1 => if fst f n ≠ 0 then fst f n else f n
theorem fst_hit {f : Nat → Int} {k n : Nat} (h0 : fst f k = 0) (h1 : f k ≠ 0) (hk : k < n) : fst f n = f k := by
 induction n with
 | zero => omega
 | succ n ih =>
  unfold fst
  by_cases e : k = n
  . subst e; simp [h0]
  . have := ih (by omega)
    rw [if_pos (by rw [this]; exact h1), this]
theorem fst_step {f : Nat → Int} {k : Nat} (h0 : fst f k = 0) (h1 : f k = 0) : fst f (k + 1) = 0 := by
  unfold fst; simp [h0, h1]
theorem fst_zero {f : Nat → Int} {n : Nat} (h : fst f n = 0) : ∀ k, k < n → f k = 0 := by
 induction n with
 | zero => intro k hk; omega
 | succ n ih =>
  unfold fst at h
  by_cases e : fst f n = 0
  . simp [e] at h
    intro k hk
    by_cases c : k = n
    . subst c; exact h
    . exact ih e k (by omega)
  . simp [e] at h
theorem size_nil {s : ByteArray} (h : s.toList = []) : s.size = 0 := by
  rw [Lib.toList_data] at h
  have := congrArg List.length h
  simpa using this
def byteN (s : ByteArray) (i : Nat) : Int := ((s.data.toList.getD i 0).toNat : Int)
def isL (c : Int) : Prop := 97 ≤ c ∧ c ≤ 122
def isD (c : Int) : Prop := 48 ≤ c ∧ c ≤ 57
instance (c : Int) : Decidable (isL c) := by unfold isL; infer_instance
instance (c : Int) : Decidable (isD c) := by unfold isD; infer_instance
def sgn (s : ByteArray) (i : Nat) : Int := if isL (byteN s i) ∨ (i ≠ 0 ∧ isD (byteN s i)) then 0 else 4
def nchk (s : ByteArray) : Int := if s.size < 1 ∨ 10 < s.size then 1 else fst (sgn s) s.size
def fnd (name : ByteArray) : List Fd → Nat → Int
  | [], _ => -1
  | f :: l, k => if eqS f.s name = true then (k : Int) else fnd name l (k + 1)
def fchk (fs : List Fd) (i : Nat) : Int :=
  match fs[i]? with
  | none => 0
  | some f => if nchk f.s ≠ 0 then nchk f.s else if f.k ≠ 1 ∧ f.k ≠ 2 then 3 else if 0 ≤ fnd f.s (fs.take i) 0 then 7 else 0
def tchk (t : Ty) : Int := if nchk t.s ≠ 0 then nchk t.s else if 4 < t.fs.length then 1 else fst (fchk t.fs) t.fs.length
def vat (l : List Vl) (i : Nat) : Int := match l[i]? with | none => 0 | some v => vchk v
def kat (l : List Vl) (fs : List Fd) (i : Nat) : Int := match l[i]?, fs[i]? with | some v, some f => if v.k ≠ f.k then 13 else 0 | _, _ => 0
def fit (t : Ty) (l : List Vl) : Int :=
  if tchk t ≠ 0 then tchk t else if fst (vat l) l.length ≠ 0 then fst (vat l) l.length
  else if l.length ≠ t.fs.length then 13 else fst (kat l t.fs) l.length
abbrev vV (v : Vl) : Value := .agg #[.int .i64 v.k, .int .i64 v.n, .string v.s]
def FieldsAt (w : World) (v : Value) (fs : List Fd) : Prop :=
  ∃ p cap, v = .slice p fs.length cap ∧ fs.length ≤ cap ∧ cap ≤ maxLen ∧ (0 < fs.length → ∃ g off, p = some ⟨g, off, none⟩ ∧ ∀ j (hj : j < fs.length), g < w.heap.size ∧ w.cell? ⟨g, off + j * 2, none⟩ = some (.string fs[j].s) ∧ w.cell? ⟨g, off + j * 2 + 1, none⟩ = some (.int .i64 fs[j].k))
def ValsAt (w : World) (v : Value) (l : List Vl) : Prop :=
  ∃ p cap, v = .slice p l.length cap ∧ l.length ≤ cap ∧ cap ≤ maxLen ∧ (0 < l.length → ∃ g off, p = some ⟨g, off, none⟩ ∧ ∀ j (hj : j < l.length), g < w.heap.size ∧ w.cell? ⟨g, off + j * 3, none⟩ = some (.int .i64 l[j].k) ∧ w.cell? ⟨g, off + j * 3 + 1, none⟩ = some (.int .i64 l[j].n) ∧ w.cell? ⟨g, off + j * 3 + 2, none⟩ = some (.string l[j].s))
theorem FieldsAt.below {w w' : World} {v : Value} {fs : List Fd} (h : FieldsAt w v fs) (b : Below w.heap.size w w') : FieldsAt w' v fs := by
  obtain ⟨p, cap, h1, hc, hm, h2⟩ := h
  refine ⟨p, cap, h1, hc, hm, fun h0 => ?_⟩
  obtain ⟨g, off, h3, h4⟩ := h2 h0
  refine ⟨g, off, h3, fun j hj => ?_⟩
  obtain ⟨a, b0, b1⟩ := h4 j hj
  exact ⟨Nat.lt_of_lt_of_le a b.size, (b.cell (p := ⟨g, off + j * 2, none⟩) a).trans b0, (b.cell (p := ⟨g, off + j * 2 + 1, none⟩) a).trans b1⟩
theorem ValsAt.below {w w' : World} {v : Value} {fs : List Vl} (h : ValsAt w v fs) (b : Below w.heap.size w w') : ValsAt w' v fs := by
  obtain ⟨p, cap, h1, hc, hm, h2⟩ := h
  refine ⟨p, cap, h1, hc, hm, fun h0 => ?_⟩
  obtain ⟨g, off, h3, h4⟩ := h2 h0
  refine ⟨g, off, h3, fun j hj => ?_⟩
  obtain ⟨a, b0, b1, b2⟩ := h4 j hj
  exact ⟨Nat.lt_of_lt_of_le a b.size, (b.cell (p := ⟨g, off + j * 3, none⟩) a).trans b0, (b.cell (p := ⟨g, off + j * 3 + 1, none⟩) a).trans b1, (b.cell (p := ⟨g, off + j * 3 + 2, none⟩) a).trans b2⟩
theorem below_trans {B B' : Nat} {w w1 w2 : World} (h : Below B w w1) (h2 : Below B' w1 w2) (hb : B ≤ B') : Below B w w2 :=
  ⟨h2.os.trans h.os, h2.tape.trans h.tape, h2.output.trans h.output, Nat.le_trans h.size h2.size, fun k hk => (h2.block k (by omega)).trans (h.block k hk)⟩
theorem ret_int {k : IntKind} {a b : Int} (h : a = b) : Ending.returned (.int k a) = .returned (.int k b) := by rw [h]
theorem vchk_eq (v : Vl) : vchk v = if v.k = 1 then (if v.s.toList ≠ [] then 4 else if v.n < -1125899906842624 ∨ 1125899906842624 < v.n then 2 else 0) else if v.k ≠ 2 then 3 else if v.n ≠ 0 then 4 else if 20 < v.s.size then 1 else 0 := by
 unfold vchk
 by_cases h1 : v.k = 1
 . by_cases h2 : v.s.toList = []
   . have := size_nil h2
     simp [h1, h2, this]
   . simp [h1, h2]
 . by_cases h2 : v.k = 2
   . by_cases h3 : v.n = 0
     . simp [h2, h3]
     . simp [h2, h3]
   . simp [h1, h2]
set_option maxHeartbeats 2000000 in
theorem check_any (v : Vl) (w : World) :
  Calls Tryz.prog 143 #[vV v] w fun e w' => e = .returned (.int .i64 (vchk v)) ∧ Below w.heap.size w w' := by
 obtain ⟨k, n, s⟩ := v
 unfold vV
 have hz : s.toList = [] → s.size = 0 := size_nil
 have HZ : Hid (s.toList = [] → s.size = 0) := hz
 clear hz
 go_enter Tryz.func143, Tryz.ntmps143
 go_wp2
 all_goals
  go_ret
  refine ⟨ret_int ?_, (Below.refl _ _).alloc (Nat.le_refl _) _⟩
  have hz := HZ.out
  rw [vchk_eq]
  simp_all <;> omega
set_option maxHeartbeats 2000000 in
theorem vfault_any (v : Vl) (w : World) :
  Calls Tryz.prog 79 #[vV v] w fun e w' => e = .returned (.int .i64 (vchk v)) ∧ Below w.heap.size w w' := by
 obtain ⟨k, n, s⟩ := v
 unfold vV
 go_enter Tryz.func79, Tryz.ntmps79
 go_wp2
 all_goals
  go_ret
  refine ⟨ret_int ?_, (Below.refl _ _).alloc (Nat.le_refl _) _⟩
  rw [vchk_eq]
  simp_all <;> omega
theorem byteN_at (s : ByteArray) (k : Nat) (h : k < s.size) : byteN s k = (s[k].toNat : Int) := by
  unfold byteN
  have h' : k < s.data.toList.length := by simpa using h
  rw [List.getD_eq_getElem?_getD, List.getElem?_eq_getElem h']
  rfl
theorem sgn_at (s : ByteArray) (k : Nat) (h : k < s.size) : sgn s k = if (97 ≤ (s[k].toNat : Int) ∧ (s[k].toNat : Int) ≤ 122) ∨ (k ≠ 0 ∧ 48 ≤ (s[k].toNat : Int) ∧ (s[k].toNat : Int) ≤ 57) then 0 else 4 := by
  unfold sgn isL isD
  rw [byteN_at s k h]
theorem nchk_mid {s : ByteArray} (h1 : 1 ≤ s.size) (h2 : s.size ≤ 10) : nchk s = fst (sgn s) s.size := by
  unfold nchk; rw [if_neg (by omega)]
theorem wrap_byte (c : UInt8) : wrap64 (c.toNat : Int) = (c.toNat : Int) := by
  have := c.toNat_lt
  unfold wrap64
  omega
def Say (b : Bool) (P : Prop) : Prop := b = true ↔ P
theorem bool_of (P : Prop) [Decidable P] : ∃ b : Bool, Say b P := ⟨decide P, by simp [Say]⟩
theorem Say.yes {P : Prop} (h : P) : Say true P := by simp [Say, h]
theorem Say.no {P : Prop} (h : ¬ P) : Say false P := by simp [Say, h]
theorem ret_bool {a b : Bool} (h : a = b) : Ending.returned (.bool a) = .returned (.bool b) := by rw [h]
theorem isDigit_any (c : Int) (r : Bool) (h : Say r ((48 : Int) ≤ c ∧ c ≤ 57)) (w : World) :
  Calls Tryz.prog 133 #[.int .u8 c] w fun e w' => e = .returned (.bool r) ∧ w' = w := by
 have H : Hid (Say r ((48 : Int) ≤ c ∧ c ≤ 57)) := h
 clear h
 go_enter Tryz.func133, Tryz.ntmps133
 go_wp2
 all_goals
  go_ret
  exact ⟨ret_bool (by have h := H.out; unfold Say at h; rw [Bool.eq_iff_iff, h]; simp <;> omega), rfl⟩
theorem isLetter_any (c : Int) (r : Bool) (h : Say r ((97 : Int) ≤ c ∧ c ≤ 122)) (w : World) :
  Calls Tryz.prog 134 #[.int .u8 c] w fun e w' => e = .returned (.bool r) ∧ w' = w := by
 have H : Hid (Say r ((97 : Int) ≤ c ∧ c ≤ 122)) := h
 clear h
 go_enter Tryz.func134, Tryz.ntmps134
 go_wp2
 all_goals
  go_ret
  exact ⟨ret_bool (by have h := H.out; unfold Say at h; rw [Bool.eq_iff_iff, h]; simp <;> omega), rfl⟩
theorem in_any (a b c : Int) (r : Bool) (h : Say r (b ≤ a ∧ a ≤ c)) (w : World) :
  Calls Tryz.prog 17 #[.int .i64 a, .int .i64 b, .int .i64 c] w fun e w' => e = .returned (.bool r) ∧ w' = w := by
 have H : Hid (Say r (b ≤ a ∧ a ≤ c)) := h
 clear h
 go_enter Tryz.func17, Tryz.ntmps17
 go_wp2
 all_goals
  go_ret
  exact ⟨ret_bool (by have h := H.out; unfold Say at h; rw [Bool.eq_iff_iff, h]; simp <;> omega), rfl⟩
set_option maxHeartbeats 2000000 in
theorem name_any (s : ByteArray) (w : World) :
    Calls Tryz.prog 97 #[.string s] w fun e w' => e = .returned (.int .i64 (nchk s)) ∧ w' = w := by
  by_cases hsz : 1 ≤ s.size ∧ s.size ≤ 10
  . obtain ⟨h1, h2⟩ := hsz
    have hp : 0 < s.size := by omega
    have HE : Hid (nchk s = fst (sgn s) s.size) := nchk_mid h1 h2
    have HS : Hid (∀ k (h : k < s.size), sgn s k = if (97 ≤ (s[k].toNat : Int) ∧ (s[k].toNat : Int) ≤ 122) ∨ (k ≠ 0 ∧ 48 ≤ (s[k].toNat : Int) ∧ (s[k].toNat : Int) ≤ 57) then 0 else 4) := sgn_at s
    by_cases hd : (48 : Int) ≤ (s[0].toNat : Int) ∧ (s[0].toNat : Int) ≤ 57
    . have hx : fst (sgn s) s.size = 4 := by
        have e := sgn_at s 0 hp
        rw [if_neg (by omega)] at e
        rw [fst_hit (k := 0) rfl (by rw [e]; omega) hp, e]
      have HX : Hid (fst (sgn s) s.size = 4) := hx
      have HD : Hid ((48 : Int) ≤ (s[0].toNat : Int) ∧ (s[0].toNat : Int) ≤ 57) := hd
      clear hx hd
      go_enter Tryz.func97, Tryz.ntmps97
      go_wp2_with (go_at_call 133; refine (isDigit_any _ true (Say.yes HD.out) _).mono ?_; rintro e w' ⟨rfl, rfl⟩)
      go_ret
      exact ⟨ret_int (by rw [HE.out, HX.out]), rfl⟩
    . have HD : Hid (¬ ((48 : Int) ≤ (s[0].toNat : Int) ∧ (s[0].toNat : Int) ≤ 57)) := hd
      clear hd
      go_enter Tryz.func97, Tryz.ntmps97
      go_wp2_with (go_at_call 133; refine (isDigit_any _ false (Say.no HD.out) _).mono ?_; rintro e w' ⟨rfl, rfl⟩)
      go_loop [17] (fun i => ∃ k : Nat, k ≤ s.size ∧ i = .int .i64 k ∧ fst (sgn s) k = 0) (fun i => s.size - (intOf i).toNat)
      case atStart => exact ⟨0, Nat.zero_le _, rfl, rfl⟩
      case round =>
        obtain ⟨k, hk, rfl, hf⟩ := hrel
        have HF : Hid (fst (sgn s) k = 0) := hf
        clear hf
        by_cases hlt : k < s.size
        . have HK : Hid (sgn s k = if (97 ≤ (s[k].toNat : Int) ∧ (s[k].toNat : Int) ≤ 122) ∨ (k ≠ 0 ∧ 48 ≤ (s[k].toNat : Int) ∧ (s[k].toNat : Int) ≤ 57) then 0 else 4) := HS.out k hlt
          have HD' : Hid (k = 0 → ¬ (48 ≤ (s[k].toNat : Int) ∧ (s[k].toNat : Int) ≤ 57)) := fun h => by subst h; exact HD.out
          obtain ⟨bl, hbl⟩ := bool_of ((97 : Int) ≤ (s[k].toNat : Int) ∧ (s[k].toNat : Int) ≤ 122)
          obtain ⟨bd, hbd⟩ := bool_of ((48 : Int) ≤ (s[k].toNat : Int) ∧ (s[k].toNat : Int) ≤ 57)
          have HL : Hid (Say bl ((97 : Int) ≤ (s[k].toNat : Int) ∧ (s[k].toNat : Int) ≤ 122)) := hbl
          have HDG : Hid (Say bd ((48 : Int) ≤ (s[k].toNat : Int) ∧ (s[k].toNat : Int) ≤ 57)) := hbd
          clear hbl hbd
          cases bl <;> cases bd
          all_goals go_wp2_with (first | (go_at_call 133; refine (isDigit_any _ _ HDG.out _).mono ?_; rintro e w' ⟨rfl, rfl⟩) | (go_at_call 134; refine (isLetter_any _ _ HL.out _).mono ?_; rintro e w' ⟨rfl, rfl⟩))
          all_goals
            have hl := HL.out
            have hdg := HDG.out
            simp [Say] at hl hdg
            have e := HK.out
            have e2 := HD'.out
          . rw [if_neg (by omega)] at e
            go_ret
            exact ⟨ret_int (by rw [HE.out, fst_hit HF.out (by rw [e]; omega) hlt, e]), rfl⟩
          all_goals
            rw [if_pos (by omega)] at e
            have HEE : Hid (sgn s k = 0) := e
            clear e e2 hl hdg
            go_round
            case rel => exact ⟨k + 1, by omega, by go_num, fst_step HF.out HEE.out⟩
            case measure => simp [intOf]; omega
        . obtain rfl : k = s.size := by omega
          go_wp2
          go_ret
          exact ⟨ret_int (by rw [HE.out, HF.out]), rfl⟩
  . have he : nchk s = 1 := by unfold nchk; rw [if_pos (by omega)]
    have HE : Hid (nchk s = 1) := he
    clear he
    go_enter Tryz.func97, Tryz.ntmps97
    go_wp2
    all_goals first
      | (go_ret
         exact ⟨ret_int (by rw [HE.out]), rfl⟩)
      | (exfalso; omega)
set_option maxHeartbeats 2000000 in
theorem nfault_any (s : ByteArray) (w : World) :
   Calls Tryz.prog 70 #[.string s] w fun e w' => e = .returned (.int .i64 (nchk s)) ∧ w' = w := by
 by_cases hsz : 1 ≤ s.size ∧ s.size ≤ 10
 . obtain ⟨h1, h2⟩ := hsz
   have HE : Hid (nchk s = fst (sgn s) s.size) := nchk_mid h1 h2
   have HS : Hid (∀ k (h : k < s.size), sgn s k = if (97 ≤ (s[k].toNat : Int) ∧ (s[k].toNat : Int) ≤ 122) ∨ (k ≠ 0 ∧ 48 ≤ (s[k].toNat : Int) ∧ (s[k].toNat : Int) ≤ 57) then 0 else 4) := sgn_at s
   go_enter Tryz.func70, Tryz.ntmps70
   go_wp2_with (go_at_call 17; refine (in_any _ _ _ true (Say.yes (by omega)) _).mono ?_; rintro e w' ⟨rfl, rfl⟩)
   go_loop [3] (fun i => ∃ k : Nat, k ≤ s.size ∧ i = .int .i64 k ∧ fst (sgn s) k = 0) (fun i => s.size - (intOf i).toNat)
   case atStart => exact ⟨0, Nat.zero_le _, rfl, rfl⟩
   case round =>
    obtain ⟨k, hk, rfl, hf⟩ := hrel
    have HF : Hid (fst (sgn s) k = 0) := hf
    clear hf
    by_cases hlt : k < s.size
    . have HK : Hid (sgn s k = if (97 ≤ (s[k].toNat : Int) ∧ (s[k].toNat : Int) ≤ 122) ∨ (k ≠ 0 ∧ 48 ≤ (s[k].toNat : Int) ∧ (s[k].toNat : Int) ≤ 57) then 0 else 4) := HS.out k hlt
      obtain ⟨bl, hbl⟩ := bool_of ((97 : Int) ≤ (s[k].toNat : Int) ∧ (s[k].toNat : Int) ≤ 122)
      obtain ⟨bd, hbd⟩ := bool_of ((48 : Int) ≤ (s[k].toNat : Int) ∧ (s[k].toNat : Int) ≤ 57)
      have HL : Hid (Say bl ((97 : Int) ≤ (s[k].toNat : Int) ∧ (s[k].toNat : Int) ≤ 122)) := hbl
      have HDG : Hid (Say bd ((48 : Int) ≤ (s[k].toNat : Int) ∧ (s[k].toNat : Int) ≤ 57)) := hbd
      clear hbl hbd
      have hw64 : wrap64 (s[k].toNat : Int) = (s[k].toNat : Int) := wrap_byte s[k]
      by_cases hk0 : k = 0
      . subst hk0
        cases bl
        all_goals go_wp2_with (go_at_call 17; refine (in_any _ _ _ _ HL.out _).mono ?_; rintro e w' ⟨rfl, rfl⟩)
        all_goals
          have hl := HL.out
          simp [Say] at hl
          have e := HK.out
        . rw [if_neg (by omega)] at e
          go_ret
          exact ⟨ret_int (by rw [HE.out, fst_hit HF.out (by rw [e]; omega) hlt, e]), rfl⟩
        . rw [if_pos (by omega)] at e
          have HEE : Hid (sgn s 0 = 0) := e
          clear e hl
          go_round
          case rel => exact ⟨0 + 1, by omega, by go_num, fst_step HF.out HEE.out⟩
          case measure => simp [intOf]; omega
      . have hkd : decide ((k : Int) = 0) = false := by simp; omega
        have hkb : ((k : Int) == 0) = false := by simp; omega
        cases bl <;> cases bd
        all_goals go_wp2_with (first | (go_at_call_of 17 (Value.int IntKind.i64 97); refine (in_any _ 97 122 _ HL.out _).mono ?_; rintro e w' ⟨rfl, rfl⟩) | (go_at_call_of 17 (Value.int IntKind.i64 48); refine (in_any _ 48 57 _ HDG.out _).mono ?_; rintro e w' ⟨rfl, rfl⟩))
        all_goals
          have hl := HL.out
          have hdg := HDG.out
          simp [Say] at hl hdg
          have e := HK.out
        . rw [if_neg (by omega)] at e
          go_ret
          exact ⟨ret_int (by rw [HE.out, fst_hit HF.out (by rw [e]; omega) hlt, e]), rfl⟩
        all_goals
          rw [if_pos (by omega)] at e
          have HEE : Hid (sgn s k = 0) := e
          clear e hl hdg
          go_round
          case rel => exact ⟨k + 1, by omega, by go_num, fst_step HF.out HEE.out⟩
          case measure => simp [intOf]; omega
    . obtain rfl : k = s.size := by omega
      go_wp2
      go_ret
      exact ⟨ret_int (by rw [HE.out, HF.out]), rfl⟩
 . have he : nchk s = 1 := by unfold nchk; rw [if_pos (by omega)]
   have HE : Hid (nchk s = 1) := he
   clear he
   go_enter Tryz.func70, Tryz.ntmps70
   go_wp2_with (go_at_call 17; refine (in_any _ _ _ false (Say.no (by omega)) _).mono ?_; rintro e w' ⟨rfl, rfl⟩)
   go_ret
   exact ⟨ret_int (by rw [HE.out]), rfl⟩
end Go.Proofs.YthndlfdbmljkhaaGreatDoor.V4
