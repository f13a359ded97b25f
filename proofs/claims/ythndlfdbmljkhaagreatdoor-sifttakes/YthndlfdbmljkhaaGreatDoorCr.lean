/-
  A rule that is wrong at once, by the reference; every rule. A book, by the reference. Values, names, types and events in plain words. What Check and the document say of a value. What Name and the document say of a name. What checkAll says of values, one by one. How two values compare. Compare, and what the document says of it. The walk of Compare, and of the law over it. Fields: which one has a name; what is wrong with one.
-/
import Derived.Test.YthndlfdbmljkhaaGreatDoorRows
import Derived.Handy
import Derived.WalkSmall
import Derived.Deep.QuietTactic
import Derived.BigQuiet
import Derived.Deep.RegionHeld3
import Derived.Deep.RegionLaw
import Derived.OwnWalk
import Derived.Lib.Bytealg
import Derived.Test.YthndlfdbmljkhaaGreatDoorCq
namespace Go.Proofs.YthndlfdbmljkhaaGreatDoor.Chk
open Go.ChangeShapes Go.WideShapes Go.ChangeAt Go.RowKit Go.Maps
set_option linter.unusedVariables false
set_option linter.unusedSimpArgs false
set_option maxRecDepth 20000
set_option maxHeartbeats 64000000 in
theorem ruleFault_name (ts : List Tp) (r : Rl) (hwf : (∀ t, t ∈ r.w → Wfc t.c) ∧ (∀ t, t ∈ r.t → Wfc t.c) ∧ (∀ m, m ∈ r.m → Wfc m.p.c)) (tv u1 u2 u3 u4 u5 : Value) (w : World) (hT : Rd w (.row 72 2 (ts.map encY)) tv) (h1 : Rd w (.row 65 18 (r.w.map encP)) u1) (h2 : Rd w (.row 65 18 (r.t.map encP)) u2) (h3 : Rd w (.row 68 20 (r.m.map encM)) u3) (h4 : Rd w (.row 103 3 (r.k.map encK)) u4) (h5 : Rd w (.row 61 6 (r.e.v.map encO)) u5) (E0 : Int) (hf0 : frn r.n = E0) (hsz : E0 ≠ 0) :
    Calls Tryz.prog 36 #[tv, .agg #[.string r.n, u1, u2, u3, u4, .string r.e.ty, u5]] w fun e w' => e = .returned (.int .i64 E0) ∧ Below w.heap.size w w' := by
  obtain ⟨rn, ws, ns, ms, ks, ⟨ety, vs⟩⟩ := r
  simp only at hwf h1 h2 h3 h4 h5 hf0 hsz ⊢
  have HRT := hid hT
  have HR1 := hid h1
  have HR2 := hid h2
  have HR5 := hid h5
  obtain ⟨tp, tc, e0, m0, a0⟩ := rd_row lenY hT
  obtain ⟨q1, j1, e1, m1, a1⟩ := rd_row lenP h1
  obtain ⟨q2, j2, e2, m2, a2⟩ := rd_row lenP h2
  obtain ⟨q3, j3, e3, m3, a3⟩ := rd_row lenM h3
  obtain ⟨q4, j4, e4, m4, a4⟩ := rd_row lenK h4
  obtain ⟨q5, j5, e5, m5, a5⟩ := rd_row lenO h5
  subst e0 e1 e2 e3 e4 e5
  have hc1 := rd_cap h1
  obtain ⟨nt, hnt⟩ : ∃ l, ts.length = l := ⟨_, rfl⟩
  obtain ⟨l1, hl1⟩ : ∃ l, ws.length = l := ⟨_, rfl⟩
  obtain ⟨l2, hl2⟩ : ∃ l, ns.length = l := ⟨_, rfl⟩
  obtain ⟨l3, hl3⟩ : ∃ l, ms.length = l := ⟨_, rfl⟩
  obtain ⟨l4, hl4⟩ : ∃ l, ks.length = l := ⟨_, rfl⟩
  obtain ⟨l5, hl5⟩ : ∃ l, vs.length = l := ⟨_, rfl⟩
  rw [hnt] at HRT
  rw [hl1] at HR1 hc1
  rw [hl2] at HR2
  rw [hl5] at HR5
  rw [hnt, hl1, hl2, hl3, hl4, hl5]
  have HC1 := hid hc1
  have HNT := hid hnt
  have HN1 := hid hl1
  have HN2 := hid hl2
  have HN3 := hid hl3
  have HN4 := hid hl4
  have HWF := hid hwf
  have HA0 : Hid (At encY 2 w tp ts) := a0
  have HA1 : Hid (At encP 18 w q1 ws) := a1
  have HA2 : Hid (At encP 18 w q2 ns) := a2
  have HA3 : Hid (At encM 20 w q3 ms) := a3
  have HA4 : Hid (At encK 3 w q4 ks) := a4
  have HT : Hid (BlkT w (w.alloc (.cells [.string rn, (.slice q1 l1 j1), (.slice q2 l2 j2), (.slice q3 l3 j3), (.slice q4 l4 j4), .string ety, (.slice q5 l5 j5)].toArray 49)) [.string rn, (.slice q1 l1 j1), (.slice q2 l2 j2), (.slice q3 l3 j3), (.slice q4 l4 j4), .string ety, (.slice q5 l5 j5)] 49) := BlkT.start w _ _
  have HFN : Hid (∀ W, Calls Tryz.prog 72 #[.string rn] W fun e w' => e = .returned (.int .i64 E0) ∧ Below W.heap.size W w') := fun W => by rw [← hf0]; exact freeName_any rn W
  have d0 : (E0 == 0) = false := by simpa using hsz
  have HIN := HFN
  have cs : ∀ W, BlkT w W [.string rn, (.slice q1 l1 j1), (.slice q2 l2 j2), (.slice q3 l3 j3), (.slice q4 l4 j4), .string ety, (.slice q5 l5 j5)] 49 → W.cell? ⟨w.heap.size, 1, none⟩ = some (.slice q1 l1 j1) ∧ W.cell? ⟨w.heap.size, 2, none⟩ = some (.slice q2 l2 j2) ∧ W.cell? ⟨w.heap.size, 3, none⟩ = some (.slice q3 l3 j3) ∧ W.cell? ⟨w.heap.size, 4, none⟩ = some (.slice q4 l4 j4) := fun W h => ⟨h.c 1, h.c 2, h.c 3, h.c 4⟩
  have HCS := hid cs
  clear cs hT h1 h2 h3 h4 h5 a0 a1 a2 a3 a4 a5 hnt hl1 hl2 hl3 hl4 hl5 hf0 hsz hwf hc1
  go_enter Tryz.func36, Tryz.ntmps36
  go_upto_block 0 with (first
    | (go_at_call 17; refine (HIN.out _).mono ?_; rintro e w' ⟨rfl, rfl⟩)
    | (go_at_call 72; refine (HFN.out _).mono ?_; rintro e w2 ⟨rfl, hb_⟩; have HT2 : Hid (BlkT w w2 [.string rn, (.slice q1 l1 j1), (.slice q2 l2 j2), (.slice q3 l3 j3), (.slice q4 l4 j4), .string ety, (.slice q5 l5 j5)] 49) := HT.out.next hb_; obtain ⟨g1, g2, g3, g4⟩ := HCS.out _ HT2.out; clear hb_))
  clear HT g1 g2 g3 g4
  have HT := HT2
  clear HT2
  go_upto_block 0 with fail
  go_cut [5, 7] from 42 to 73 (fun e _ wr => e = .int .i64 E0 ∧ BlkT w wr [.string rn, (.slice q1 l1 j1), (.slice q2 l2 j2), (.slice q3 l3 j3), (.slice q4 l4 j4), .string ety, (.slice q5 l5 j5)] 49)
  case first =>
    go_wp2_with fail
    go_loopg [5, 7] 1 (fun gg e i wr => gg = 1 ∧ e = .int .i64 E0 ∧ i = .int .i64 0 ∧ BlkT w wr [.string rn, (.slice q1 l1 j1), (.slice q2 l2 j2), (.slice q3 l3 j3), (.slice q4 l4 j4), .string ety, (.slice q5 l5 j5)] 49)
    case atStart => exact ⟨rfl, rfl, rfl, HT.out⟩
    case round =>
      obtain ⟨rfl, rfl, rfl, hTr⟩ := hrel
      have HT2 := hid hTr
      have a1 : wr.cell? ⟨w.heap.size, 1, none⟩ = some (.slice q1 l1 j1) := hTr.c 1
      clear hTr
      by_cases hlt : 0 < l1
      · have i2 : (0 : Int) < (l1 : Int) := by omega
        go_wp2_with fail
        go_meet
        case rel => exact ⟨rfl, HT2.out⟩
      · first
        | (exfalso; omega)
        | (obtain rfl : l1 = 0 := by omega
           go_wp2_with fail
           go_meet
           case rel => exact ⟨rfl, HT2.out⟩)
  case rest =>
    obtain ⟨rfl, hT9⟩ := hcut
    clear HT
    have HT := hid hT9
    clear hT9
    go_upto_block 2 with fail
    go_cut [5, 8] from 74 to 103 (fun e _ wr => e = .int .i64 E0 ∧ BlkT w wr [.string rn, (.slice q1 l1 j1), (.slice q2 l2 j2), (.slice q3 l3 j3), (.slice q4 l4 j4), .string ety, (.slice q5 l5 j5)] 49)
    case first =>
      go_wp2_with fail
      go_loopg [5, 8] 1 (fun gg e i wr => gg = 1 ∧ e = .int .i64 E0 ∧ i = .int .i64 0 ∧ BlkT w wr [.string rn, (.slice q1 l1 j1), (.slice q2 l2 j2), (.slice q3 l3 j3), (.slice q4 l4 j4), .string ety, (.slice q5 l5 j5)] 49)
      case atStart => exact ⟨rfl, rfl, rfl, HT.out⟩
      case round =>
        obtain ⟨rfl, rfl, rfl, hTr⟩ := hrel
        have HT2 := hid hTr
        have a1 : wr.cell? ⟨w.heap.size, 2, none⟩ = some (.slice q2 l2 j2) := hTr.c 2
        clear hTr
        by_cases hlt : 0 < l2
        · have i2 : (0 : Int) < (l2 : Int) := by omega
          go_wp2_with fail
          go_meet
          case rel => exact ⟨rfl, HT2.out⟩
        · first
          | (exfalso; omega)
          | (obtain rfl : l2 = 0 := by omega
             go_wp2_with fail
             go_meet
             case rel => exact ⟨rfl, HT2.out⟩)
    case rest =>
      obtain ⟨rfl, hT9⟩ := hcut
      clear HT
      have HT := hid hT9
      clear hT9
      go_upto_block 4 with fail
      go_cut [5, 9] from 104 to 169 (fun e _ wr => e = .int .i64 E0 ∧ BlkT w wr [.string rn, (.slice q1 l1 j1), (.slice q2 l2 j2), (.slice q3 l3 j3), (.slice q4 l4 j4), .string ety, (.slice q5 l5 j5)] 49)
      case first =>
        go_wp2_with fail
        go_loopg [5, 9] 1 (fun gg e i wr => gg = 1 ∧ e = .int .i64 E0 ∧ i = .int .i64 0 ∧ BlkT w wr [.string rn, (.slice q1 l1 j1), (.slice q2 l2 j2), (.slice q3 l3 j3), (.slice q4 l4 j4), .string ety, (.slice q5 l5 j5)] 49)
        case atStart => exact ⟨rfl, rfl, rfl, HT.out⟩
        case round =>
          obtain ⟨rfl, rfl, rfl, hTr⟩ := hrel
          have HT2 := hid hTr
          have a1 : wr.cell? ⟨w.heap.size, 3, none⟩ = some (.slice q3 l3 j3) := hTr.c 3
          clear hTr
          by_cases hlt : 0 < l3
          · have i2 : (0 : Int) < (l3 : Int) := by omega
            go_wp2_with fail
            go_meet
            case rel => exact ⟨rfl, HT2.out⟩
          · first
            | (exfalso; omega)
            | (obtain rfl : l3 = 0 := by omega
               go_wp2_with fail
               go_meet
               case rel => exact ⟨rfl, HT2.out⟩)
      case rest =>
        obtain ⟨rfl, hT9⟩ := hcut
        clear HT
        have HT := hid hT9
        clear hT9
        go_upto_block 6 with fail
        go_cut [5, 11] from 170 to 187 (fun e _ wr => e = .int .i64 E0 ∧ BlkT w wr [.string rn, (.slice q1 l1 j1), (.slice q2 l2 j2), (.slice q3 l3 j3), (.slice q4 l4 j4), .string ety, (.slice q5 l5 j5)] 49)
        case first =>
          go_wp2_with fail
          go_loopg [5, 11] 1 (fun gg e i wr => gg = 1 ∧ e = .int .i64 E0 ∧ i = .int .i64 0 ∧ BlkT w wr [.string rn, (.slice q1 l1 j1), (.slice q2 l2 j2), (.slice q3 l3 j3), (.slice q4 l4 j4), .string ety, (.slice q5 l5 j5)] 49)
          case atStart => exact ⟨rfl, rfl, rfl, HT.out⟩
          case round =>
            obtain ⟨rfl, rfl, rfl, hTr⟩ := hrel
            have HT2 := hid hTr
            have a1 : wr.cell? ⟨w.heap.size, 4, none⟩ = some (.slice q4 l4 j4) := hTr.c 4
            clear hTr
            by_cases hlt : 0 < l4
            · have i2 : (0 : Int) < (l4 : Int) := by omega
              go_wp2_with fail
              go_meet
              case rel => exact ⟨rfl, HT2.out⟩
            · first
              | (exfalso; omega)
              | (obtain rfl : l4 = 0 := by omega
                 go_wp2_with fail
                 go_meet
                 case rel => exact ⟨rfl, HT2.out⟩)
        case rest =>
          obtain ⟨rfl, hT9⟩ := hcut
          clear HT
          have HT := hid hT9
          clear hT9
          go_wp2_with fail
          go_ret
          exact ⟨rfl, HT.out.bel⟩
set_option maxHeartbeats 64000000 in
theorem ruleFault_size (ts : List Tp) (r : Rl) (hwf : (∀ t, t ∈ r.w → Wfc t.c) ∧ (∀ t, t ∈ r.t → Wfc t.c) ∧ (∀ m, m ∈ r.m → Wfc m.p.c)) (tv u1 u2 u3 u4 u5 : Value) (w : World) (hT : Rd w (.row 72 2 (ts.map encY)) tv) (h1 : Rd w (.row 65 18 (r.w.map encP)) u1) (h2 : Rd w (.row 65 18 (r.t.map encP)) u2) (h3 : Rd w (.row 68 20 (r.m.map encM)) u3) (h4 : Rd w (.row 103 3 (r.k.map encK)) u4) (h5 : Rd w (.row 61 6 (r.e.v.map encO)) u5) (E0 : Int) (hE : E0 = 1) (hf0 : frn r.n = 0) (hsz : ¬ szs r) :
    Calls Tryz.prog 36 #[tv, .agg #[.string r.n, u1, u2, u3, u4, .string r.e.ty, u5]] w fun e w' => e = .returned (.int .i64 E0) ∧ Below w.heap.size w w' := by
  subst hE
  obtain ⟨rn, ws, ns, ms, ks, ⟨ety, vs⟩⟩ := r
  simp only at hwf h1 h2 h3 h4 h5 hf0 hsz ⊢
  have HRT := hid hT
  have HR1 := hid h1
  have HR2 := hid h2
  have HR5 := hid h5
  obtain ⟨tp, tc, e0, m0, a0⟩ := rd_row lenY hT
  obtain ⟨q1, j1, e1, m1, a1⟩ := rd_row lenP h1
  obtain ⟨q2, j2, e2, m2, a2⟩ := rd_row lenP h2
  obtain ⟨q3, j3, e3, m3, a3⟩ := rd_row lenM h3
  obtain ⟨q4, j4, e4, m4, a4⟩ := rd_row lenK h4
  obtain ⟨q5, j5, e5, m5, a5⟩ := rd_row lenO h5
  subst e0 e1 e2 e3 e4 e5
  have hc1 := rd_cap h1
  obtain ⟨nt, hnt⟩ : ∃ l, ts.length = l := ⟨_, rfl⟩
  obtain ⟨l1, hl1⟩ : ∃ l, ws.length = l := ⟨_, rfl⟩
  obtain ⟨l2, hl2⟩ : ∃ l, ns.length = l := ⟨_, rfl⟩
  obtain ⟨l3, hl3⟩ : ∃ l, ms.length = l := ⟨_, rfl⟩
  obtain ⟨l4, hl4⟩ : ∃ l, ks.length = l := ⟨_, rfl⟩
  obtain ⟨l5, hl5⟩ : ∃ l, vs.length = l := ⟨_, rfl⟩
  rw [hnt] at HRT
  rw [hl1] at HR1 hc1
  rw [hl2] at HR2
  rw [hl5] at HR5
  unfold szs at hsz
  simp only at hsz
  rw [hl1, hl2, hl3, hl4] at hsz
  rw [hnt, hl1, hl2, hl3, hl4, hl5]
  have HC1 := hid hc1
  have HNT := hid hnt
  have HN1 := hid hl1
  have HN2 := hid hl2
  have HN3 := hid hl3
  have HN4 := hid hl4
  have HWF := hid hwf
  have HA0 : Hid (At encY 2 w tp ts) := a0
  have HA1 : Hid (At encP 18 w q1 ws) := a1
  have HA2 : Hid (At encP 18 w q2 ns) := a2
  have HA3 : Hid (At encM 20 w q3 ms) := a3
  have HA4 : Hid (At encK 3 w q4 ks) := a4
  have HT : Hid (BlkT w (w.alloc (.cells [.string rn, (.slice q1 l1 j1), (.slice q2 l2 j2), (.slice q3 l3 j3), (.slice q4 l4 j4), .string ety, (.slice q5 l5 j5)].toArray 49)) [.string rn, (.slice q1 l1 j1), (.slice q2 l2 j2), (.slice q3 l3 j3), (.slice q4 l4 j4), .string ety, (.slice q5 l5 j5)] 49) := BlkT.start w _ _
  have HFN : Hid (∀ W, Calls Tryz.prog 72 #[.string rn] W fun e w' => e = .returned (.int .i64 0) ∧ Below W.heap.size W w') := fun W => by rw [← hf0]; exact freeName_any rn W
  by_cases hin : 1 ≤ l1 ∧ l1 ≤ 3
  · have HIN : Hid (∀ W, Calls Tryz.prog 17 #[.int .i64 (l1 : Int), .int .i64 1, .int .i64 3] W fun e w' => e = .returned (.bool true) ∧ w' = W) := fun W => in_any (l1 : Int) _ _ true (say_true (by omega)) W
    rcases (by omega : 2 < l2 ∨ (¬ 2 < l2 ∧ 2 < l3) ∨ (¬ 2 < l2 ∧ ¬ 2 < l3 ∧ 6 < l4)) with c2 | ⟨c2, c3⟩ | ⟨c2, c3, c4⟩
    · have c2' : (2 : Int) < (l2 : Int) := by omega
      have cs : ∀ W, BlkT w W [.string rn, (.slice q1 l1 j1), (.slice q2 l2 j2), (.slice q3 l3 j3), (.slice q4 l4 j4), .string ety, (.slice q5 l5 j5)] 49 → W.cell? ⟨w.heap.size, 1, none⟩ = some (.slice q1 l1 j1) ∧ W.cell? ⟨w.heap.size, 2, none⟩ = some (.slice q2 l2 j2) ∧ W.cell? ⟨w.heap.size, 3, none⟩ = some (.slice q3 l3 j3) ∧ W.cell? ⟨w.heap.size, 4, none⟩ = some (.slice q4 l4 j4) := fun W h => ⟨h.c 1, h.c 2, h.c 3, h.c 4⟩
      have HCS := hid cs
      clear cs hT h1 h2 h3 h4 h5 a0 a1 a2 a3 a4 a5 hnt hl1 hl2 hl3 hl4 hl5 hf0 hsz hwf hc1
      go_enter Tryz.func36, Tryz.ntmps36
      go_upto_block 0 with (first
        | (go_at_call 17; refine (HIN.out _).mono ?_; rintro e w' ⟨rfl, rfl⟩)
        | (go_at_call 72; refine (HFN.out _).mono ?_; rintro e w2 ⟨rfl, hb_⟩; have HT2 : Hid (BlkT w w2 [.string rn, (.slice q1 l1 j1), (.slice q2 l2 j2), (.slice q3 l3 j3), (.slice q4 l4 j4), .string ety, (.slice q5 l5 j5)] 49) := HT.out.next hb_; obtain ⟨g1, g2, g3, g4⟩ := HCS.out _ HT2.out; clear hb_))
      clear HT g1 g2 g3 g4
      have HT := HT2
      clear HT2
      go_upto_block 0 with fail
      go_cut [5, 7] from 42 to 73 (fun e _ wr => e = .int .i64 1 ∧ BlkT w wr [.string rn, (.slice q1 l1 j1), (.slice q2 l2 j2), (.slice q3 l3 j3), (.slice q4 l4 j4), .string ety, (.slice q5 l5 j5)] 49)
      case first =>
        go_wp2_with fail
        go_loopg [5, 7] 1 (fun gg e i wr => gg = 1 ∧ e = .int .i64 1 ∧ i = .int .i64 0 ∧ BlkT w wr [.string rn, (.slice q1 l1 j1), (.slice q2 l2 j2), (.slice q3 l3 j3), (.slice q4 l4 j4), .string ety, (.slice q5 l5 j5)] 49)
        case atStart => exact ⟨rfl, rfl, rfl, HT.out⟩
        case round =>
          obtain ⟨rfl, rfl, rfl, hTr⟩ := hrel
          have HT2 := hid hTr
          have a1 : wr.cell? ⟨w.heap.size, 1, none⟩ = some (.slice q1 l1 j1) := hTr.c 1
          clear hTr
          by_cases hlt : 0 < l1
          · have i2 : (0 : Int) < (l1 : Int) := by omega
            go_wp2_with fail
            go_meet
            case rel => exact ⟨rfl, HT2.out⟩
          · first
            | (exfalso; omega)
            | (obtain rfl : l1 = 0 := by omega
               go_wp2_with fail
               go_meet
               case rel => exact ⟨rfl, HT2.out⟩)
      case rest =>
        obtain ⟨rfl, hT9⟩ := hcut
        clear HT
        have HT := hid hT9
        clear hT9
        go_upto_block 2 with fail
        go_cut [5, 8] from 74 to 103 (fun e _ wr => e = .int .i64 1 ∧ BlkT w wr [.string rn, (.slice q1 l1 j1), (.slice q2 l2 j2), (.slice q3 l3 j3), (.slice q4 l4 j4), .string ety, (.slice q5 l5 j5)] 49)
        case first =>
          go_wp2_with fail
          go_loopg [5, 8] 1 (fun gg e i wr => gg = 1 ∧ e = .int .i64 1 ∧ i = .int .i64 0 ∧ BlkT w wr [.string rn, (.slice q1 l1 j1), (.slice q2 l2 j2), (.slice q3 l3 j3), (.slice q4 l4 j4), .string ety, (.slice q5 l5 j5)] 49)
          case atStart => exact ⟨rfl, rfl, rfl, HT.out⟩
          case round =>
            obtain ⟨rfl, rfl, rfl, hTr⟩ := hrel
            have HT2 := hid hTr
            have a1 : wr.cell? ⟨w.heap.size, 2, none⟩ = some (.slice q2 l2 j2) := hTr.c 2
            clear hTr
            by_cases hlt : 0 < l2
            · have i2 : (0 : Int) < (l2 : Int) := by omega
              go_wp2_with fail
              go_meet
              case rel => exact ⟨rfl, HT2.out⟩
            · first
              | (exfalso; omega)
              | (obtain rfl : l2 = 0 := by omega
                 go_wp2_with fail
                 go_meet
                 case rel => exact ⟨rfl, HT2.out⟩)
        case rest =>
          obtain ⟨rfl, hT9⟩ := hcut
          clear HT
          have HT := hid hT9
          clear hT9
          go_upto_block 4 with fail
          go_cut [5, 9] from 104 to 169 (fun e _ wr => e = .int .i64 1 ∧ BlkT w wr [.string rn, (.slice q1 l1 j1), (.slice q2 l2 j2), (.slice q3 l3 j3), (.slice q4 l4 j4), .string ety, (.slice q5 l5 j5)] 49)
          case first =>
            go_wp2_with fail
            go_loopg [5, 9] 1 (fun gg e i wr => gg = 1 ∧ e = .int .i64 1 ∧ i = .int .i64 0 ∧ BlkT w wr [.string rn, (.slice q1 l1 j1), (.slice q2 l2 j2), (.slice q3 l3 j3), (.slice q4 l4 j4), .string ety, (.slice q5 l5 j5)] 49)
            case atStart => exact ⟨rfl, rfl, rfl, HT.out⟩
            case round =>
              obtain ⟨rfl, rfl, rfl, hTr⟩ := hrel
              have HT2 := hid hTr
              have a1 : wr.cell? ⟨w.heap.size, 3, none⟩ = some (.slice q3 l3 j3) := hTr.c 3
              clear hTr
              by_cases hlt : 0 < l3
              · have i2 : (0 : Int) < (l3 : Int) := by omega
                go_wp2_with fail
                go_meet
                case rel => exact ⟨rfl, HT2.out⟩
              · first
                | (exfalso; omega)
                | (obtain rfl : l3 = 0 := by omega
                   go_wp2_with fail
                   go_meet
                   case rel => exact ⟨rfl, HT2.out⟩)
          case rest =>
            obtain ⟨rfl, hT9⟩ := hcut
            clear HT
            have HT := hid hT9
            clear hT9
            go_upto_block 6 with fail
            go_cut [5, 11] from 170 to 187 (fun e _ wr => e = .int .i64 1 ∧ BlkT w wr [.string rn, (.slice q1 l1 j1), (.slice q2 l2 j2), (.slice q3 l3 j3), (.slice q4 l4 j4), .string ety, (.slice q5 l5 j5)] 49)
            case first =>
              go_wp2_with fail
              go_loopg [5, 11] 1 (fun gg e i wr => gg = 1 ∧ e = .int .i64 1 ∧ i = .int .i64 0 ∧ BlkT w wr [.string rn, (.slice q1 l1 j1), (.slice q2 l2 j2), (.slice q3 l3 j3), (.slice q4 l4 j4), .string ety, (.slice q5 l5 j5)] 49)
              case atStart => exact ⟨rfl, rfl, rfl, HT.out⟩
              case round =>
                obtain ⟨rfl, rfl, rfl, hTr⟩ := hrel
                have HT2 := hid hTr
                have a1 : wr.cell? ⟨w.heap.size, 4, none⟩ = some (.slice q4 l4 j4) := hTr.c 4
                clear hTr
                by_cases hlt : 0 < l4
                · have i2 : (0 : Int) < (l4 : Int) := by omega
                  go_wp2_with fail
                  go_meet
                  case rel => exact ⟨rfl, HT2.out⟩
                · first
                  | (exfalso; omega)
                  | (obtain rfl : l4 = 0 := by omega
                     go_wp2_with fail
                     go_meet
                     case rel => exact ⟨rfl, HT2.out⟩)
            case rest =>
              obtain ⟨rfl, hT9⟩ := hcut
              clear HT
              have HT := hid hT9
              clear hT9
              go_wp2_with fail
              go_ret
              exact ⟨rfl, HT.out.bel⟩
    · have c2' : ¬ (2 : Int) < (l2 : Int) := by omega
      have c3' : (2 : Int) < (l3 : Int) := by omega
      have cs : ∀ W, BlkT w W [.string rn, (.slice q1 l1 j1), (.slice q2 l2 j2), (.slice q3 l3 j3), (.slice q4 l4 j4), .string ety, (.slice q5 l5 j5)] 49 → W.cell? ⟨w.heap.size, 1, none⟩ = some (.slice q1 l1 j1) ∧ W.cell? ⟨w.heap.size, 2, none⟩ = some (.slice q2 l2 j2) ∧ W.cell? ⟨w.heap.size, 3, none⟩ = some (.slice q3 l3 j3) ∧ W.cell? ⟨w.heap.size, 4, none⟩ = some (.slice q4 l4 j4) := fun W h => ⟨h.c 1, h.c 2, h.c 3, h.c 4⟩
      have HCS := hid cs
      clear cs hT h1 h2 h3 h4 h5 a0 a1 a2 a3 a4 a5 hnt hl1 hl2 hl3 hl4 hl5 hf0 hsz hwf hc1
      go_enter Tryz.func36, Tryz.ntmps36
      go_upto_block 0 with (first
        | (go_at_call 17; refine (HIN.out _).mono ?_; rintro e w' ⟨rfl, rfl⟩)
        | (go_at_call 72; refine (HFN.out _).mono ?_; rintro e w2 ⟨rfl, hb_⟩; have HT2 : Hid (BlkT w w2 [.string rn, (.slice q1 l1 j1), (.slice q2 l2 j2), (.slice q3 l3 j3), (.slice q4 l4 j4), .string ety, (.slice q5 l5 j5)] 49) := HT.out.next hb_; obtain ⟨g1, g2, g3, g4⟩ := HCS.out _ HT2.out; clear hb_))
      clear HT g1 g2 g3 g4
      have HT := HT2
      clear HT2
      go_upto_block 0 with fail
      go_cut [5, 7] from 42 to 73 (fun e _ wr => e = .int .i64 1 ∧ BlkT w wr [.string rn, (.slice q1 l1 j1), (.slice q2 l2 j2), (.slice q3 l3 j3), (.slice q4 l4 j4), .string ety, (.slice q5 l5 j5)] 49)
      case first =>
        go_wp2_with fail
        go_loopg [5, 7] 1 (fun gg e i wr => gg = 1 ∧ e = .int .i64 1 ∧ i = .int .i64 0 ∧ BlkT w wr [.string rn, (.slice q1 l1 j1), (.slice q2 l2 j2), (.slice q3 l3 j3), (.slice q4 l4 j4), .string ety, (.slice q5 l5 j5)] 49)
        case atStart => exact ⟨rfl, rfl, rfl, HT.out⟩
        case round =>
          obtain ⟨rfl, rfl, rfl, hTr⟩ := hrel
          have HT2 := hid hTr
          have a1 : wr.cell? ⟨w.heap.size, 1, none⟩ = some (.slice q1 l1 j1) := hTr.c 1
          clear hTr
          by_cases hlt : 0 < l1
          · have i2 : (0 : Int) < (l1 : Int) := by omega
            go_wp2_with fail
            go_meet
            case rel => exact ⟨rfl, HT2.out⟩
          · first
            | (exfalso; omega)
            | (obtain rfl : l1 = 0 := by omega
               go_wp2_with fail
               go_meet
               case rel => exact ⟨rfl, HT2.out⟩)
      case rest =>
        obtain ⟨rfl, hT9⟩ := hcut
        clear HT
        have HT := hid hT9
        clear hT9
        go_upto_block 2 with fail
        go_cut [5, 8] from 74 to 103 (fun e _ wr => e = .int .i64 1 ∧ BlkT w wr [.string rn, (.slice q1 l1 j1), (.slice q2 l2 j2), (.slice q3 l3 j3), (.slice q4 l4 j4), .string ety, (.slice q5 l5 j5)] 49)
        case first =>
          go_wp2_with fail
          go_loopg [5, 8] 1 (fun gg e i wr => gg = 1 ∧ e = .int .i64 1 ∧ i = .int .i64 0 ∧ BlkT w wr [.string rn, (.slice q1 l1 j1), (.slice q2 l2 j2), (.slice q3 l3 j3), (.slice q4 l4 j4), .string ety, (.slice q5 l5 j5)] 49)
          case atStart => exact ⟨rfl, rfl, rfl, HT.out⟩
          case round =>
            obtain ⟨rfl, rfl, rfl, hTr⟩ := hrel
            have HT2 := hid hTr
            have a1 : wr.cell? ⟨w.heap.size, 2, none⟩ = some (.slice q2 l2 j2) := hTr.c 2
            clear hTr
            by_cases hlt : 0 < l2
            · have i2 : (0 : Int) < (l2 : Int) := by omega
              go_wp2_with fail
              go_meet
              case rel => exact ⟨rfl, HT2.out⟩
            · first
              | (exfalso; omega)
              | (obtain rfl : l2 = 0 := by omega
                 go_wp2_with fail
                 go_meet
                 case rel => exact ⟨rfl, HT2.out⟩)
        case rest =>
          obtain ⟨rfl, hT9⟩ := hcut
          clear HT
          have HT := hid hT9
          clear hT9
          go_upto_block 4 with fail
          go_cut [5, 9] from 104 to 169 (fun e _ wr => e = .int .i64 1 ∧ BlkT w wr [.string rn, (.slice q1 l1 j1), (.slice q2 l2 j2), (.slice q3 l3 j3), (.slice q4 l4 j4), .string ety, (.slice q5 l5 j5)] 49)
          case first =>
            go_wp2_with fail
            go_loopg [5, 9] 1 (fun gg e i wr => gg = 1 ∧ e = .int .i64 1 ∧ i = .int .i64 0 ∧ BlkT w wr [.string rn, (.slice q1 l1 j1), (.slice q2 l2 j2), (.slice q3 l3 j3), (.slice q4 l4 j4), .string ety, (.slice q5 l5 j5)] 49)
            case atStart => exact ⟨rfl, rfl, rfl, HT.out⟩
            case round =>
              obtain ⟨rfl, rfl, rfl, hTr⟩ := hrel
              have HT2 := hid hTr
              have a1 : wr.cell? ⟨w.heap.size, 3, none⟩ = some (.slice q3 l3 j3) := hTr.c 3
              clear hTr
              by_cases hlt : 0 < l3
              · have i2 : (0 : Int) < (l3 : Int) := by omega
                go_wp2_with fail
                go_meet
                case rel => exact ⟨rfl, HT2.out⟩
              · first
                | (exfalso; omega)
                | (obtain rfl : l3 = 0 := by omega
                   go_wp2_with fail
                   go_meet
                   case rel => exact ⟨rfl, HT2.out⟩)
          case rest =>
            obtain ⟨rfl, hT9⟩ := hcut
            clear HT
            have HT := hid hT9
            clear hT9
            go_upto_block 6 with fail
            go_cut [5, 11] from 170 to 187 (fun e _ wr => e = .int .i64 1 ∧ BlkT w wr [.string rn, (.slice q1 l1 j1), (.slice q2 l2 j2), (.slice q3 l3 j3), (.slice q4 l4 j4), .string ety, (.slice q5 l5 j5)] 49)
            case first =>
              go_wp2_with fail
              go_loopg [5, 11] 1 (fun gg e i wr => gg = 1 ∧ e = .int .i64 1 ∧ i = .int .i64 0 ∧ BlkT w wr [.string rn, (.slice q1 l1 j1), (.slice q2 l2 j2), (.slice q3 l3 j3), (.slice q4 l4 j4), .string ety, (.slice q5 l5 j5)] 49)
              case atStart => exact ⟨rfl, rfl, rfl, HT.out⟩
              case round =>
                obtain ⟨rfl, rfl, rfl, hTr⟩ := hrel
                have HT2 := hid hTr
                have a1 : wr.cell? ⟨w.heap.size, 4, none⟩ = some (.slice q4 l4 j4) := hTr.c 4
                clear hTr
                by_cases hlt : 0 < l4
                · have i2 : (0 : Int) < (l4 : Int) := by omega
                  go_wp2_with fail
                  go_meet
                  case rel => exact ⟨rfl, HT2.out⟩
                · first
                  | (exfalso; omega)
                  | (obtain rfl : l4 = 0 := by omega
                     go_wp2_with fail
                     go_meet
                     case rel => exact ⟨rfl, HT2.out⟩)
            case rest =>
              obtain ⟨rfl, hT9⟩ := hcut
              clear HT
              have HT := hid hT9
              clear hT9
              go_wp2_with fail
              go_ret
              exact ⟨rfl, HT.out.bel⟩
    · have c2' : ¬ (2 : Int) < (l2 : Int) := by omega
      have c3' : ¬ (2 : Int) < (l3 : Int) := by omega
      have c4' : (6 : Int) < (l4 : Int) := by omega
      have cs : ∀ W, BlkT w W [.string rn, (.slice q1 l1 j1), (.slice q2 l2 j2), (.slice q3 l3 j3), (.slice q4 l4 j4), .string ety, (.slice q5 l5 j5)] 49 → W.cell? ⟨w.heap.size, 1, none⟩ = some (.slice q1 l1 j1) ∧ W.cell? ⟨w.heap.size, 2, none⟩ = some (.slice q2 l2 j2) ∧ W.cell? ⟨w.heap.size, 3, none⟩ = some (.slice q3 l3 j3) ∧ W.cell? ⟨w.heap.size, 4, none⟩ = some (.slice q4 l4 j4) := fun W h => ⟨h.c 1, h.c 2, h.c 3, h.c 4⟩
      have HCS := hid cs
      clear cs hT h1 h2 h3 h4 h5 a0 a1 a2 a3 a4 a5 hnt hl1 hl2 hl3 hl4 hl5 hf0 hsz hwf hc1
      go_enter Tryz.func36, Tryz.ntmps36
      go_upto_block 0 with (first
        | (go_at_call 17; refine (HIN.out _).mono ?_; rintro e w' ⟨rfl, rfl⟩)
        | (go_at_call 72; refine (HFN.out _).mono ?_; rintro e w2 ⟨rfl, hb_⟩; have HT2 : Hid (BlkT w w2 [.string rn, (.slice q1 l1 j1), (.slice q2 l2 j2), (.slice q3 l3 j3), (.slice q4 l4 j4), .string ety, (.slice q5 l5 j5)] 49) := HT.out.next hb_; obtain ⟨g1, g2, g3, g4⟩ := HCS.out _ HT2.out; clear hb_))
      clear HT g1 g2 g3 g4
      have HT := HT2
      clear HT2
      go_upto_block 0 with fail
      go_cut [5, 7] from 42 to 73 (fun e _ wr => e = .int .i64 1 ∧ BlkT w wr [.string rn, (.slice q1 l1 j1), (.slice q2 l2 j2), (.slice q3 l3 j3), (.slice q4 l4 j4), .string ety, (.slice q5 l5 j5)] 49)
      case first =>
        go_wp2_with fail
        go_loopg [5, 7] 1 (fun gg e i wr => gg = 1 ∧ e = .int .i64 1 ∧ i = .int .i64 0 ∧ BlkT w wr [.string rn, (.slice q1 l1 j1), (.slice q2 l2 j2), (.slice q3 l3 j3), (.slice q4 l4 j4), .string ety, (.slice q5 l5 j5)] 49)
        case atStart => exact ⟨rfl, rfl, rfl, HT.out⟩
        case round =>
          obtain ⟨rfl, rfl, rfl, hTr⟩ := hrel
          have HT2 := hid hTr
          have a1 : wr.cell? ⟨w.heap.size, 1, none⟩ = some (.slice q1 l1 j1) := hTr.c 1
          clear hTr
          by_cases hlt : 0 < l1
          · have i2 : (0 : Int) < (l1 : Int) := by omega
            go_wp2_with fail
            go_meet
            case rel => exact ⟨rfl, HT2.out⟩
          · first
            | (exfalso; omega)
            | (obtain rfl : l1 = 0 := by omega
               go_wp2_with fail
               go_meet
               case rel => exact ⟨rfl, HT2.out⟩)
      case rest =>
        obtain ⟨rfl, hT9⟩ := hcut
        clear HT
        have HT := hid hT9
        clear hT9
        go_upto_block 2 with fail
        go_cut [5, 8] from 74 to 103 (fun e _ wr => e = .int .i64 1 ∧ BlkT w wr [.string rn, (.slice q1 l1 j1), (.slice q2 l2 j2), (.slice q3 l3 j3), (.slice q4 l4 j4), .string ety, (.slice q5 l5 j5)] 49)
        case first =>
          go_wp2_with fail
          go_loopg [5, 8] 1 (fun gg e i wr => gg = 1 ∧ e = .int .i64 1 ∧ i = .int .i64 0 ∧ BlkT w wr [.string rn, (.slice q1 l1 j1), (.slice q2 l2 j2), (.slice q3 l3 j3), (.slice q4 l4 j4), .string ety, (.slice q5 l5 j5)] 49)
          case atStart => exact ⟨rfl, rfl, rfl, HT.out⟩
          case round =>
            obtain ⟨rfl, rfl, rfl, hTr⟩ := hrel
            have HT2 := hid hTr
            have a1 : wr.cell? ⟨w.heap.size, 2, none⟩ = some (.slice q2 l2 j2) := hTr.c 2
            clear hTr
            by_cases hlt : 0 < l2
            · have i2 : (0 : Int) < (l2 : Int) := by omega
              go_wp2_with fail
              go_meet
              case rel => exact ⟨rfl, HT2.out⟩
            · first
              | (exfalso; omega)
              | (obtain rfl : l2 = 0 := by omega
                 go_wp2_with fail
                 go_meet
                 case rel => exact ⟨rfl, HT2.out⟩)
        case rest =>
          obtain ⟨rfl, hT9⟩ := hcut
          clear HT
          have HT := hid hT9
          clear hT9
          go_upto_block 4 with fail
          go_cut [5, 9] from 104 to 169 (fun e _ wr => e = .int .i64 1 ∧ BlkT w wr [.string rn, (.slice q1 l1 j1), (.slice q2 l2 j2), (.slice q3 l3 j3), (.slice q4 l4 j4), .string ety, (.slice q5 l5 j5)] 49)
          case first =>
            go_wp2_with fail
            go_loopg [5, 9] 1 (fun gg e i wr => gg = 1 ∧ e = .int .i64 1 ∧ i = .int .i64 0 ∧ BlkT w wr [.string rn, (.slice q1 l1 j1), (.slice q2 l2 j2), (.slice q3 l3 j3), (.slice q4 l4 j4), .string ety, (.slice q5 l5 j5)] 49)
            case atStart => exact ⟨rfl, rfl, rfl, HT.out⟩
            case round =>
              obtain ⟨rfl, rfl, rfl, hTr⟩ := hrel
              have HT2 := hid hTr
              have a1 : wr.cell? ⟨w.heap.size, 3, none⟩ = some (.slice q3 l3 j3) := hTr.c 3
              clear hTr
              by_cases hlt : 0 < l3
              · have i2 : (0 : Int) < (l3 : Int) := by omega
                go_wp2_with fail
                go_meet
                case rel => exact ⟨rfl, HT2.out⟩
              · first
                | (exfalso; omega)
                | (obtain rfl : l3 = 0 := by omega
                   go_wp2_with fail
                   go_meet
                   case rel => exact ⟨rfl, HT2.out⟩)
          case rest =>
            obtain ⟨rfl, hT9⟩ := hcut
            clear HT
            have HT := hid hT9
            clear hT9
            go_upto_block 6 with fail
            go_cut [5, 11] from 170 to 187 (fun e _ wr => e = .int .i64 1 ∧ BlkT w wr [.string rn, (.slice q1 l1 j1), (.slice q2 l2 j2), (.slice q3 l3 j3), (.slice q4 l4 j4), .string ety, (.slice q5 l5 j5)] 49)
            case first =>
              go_wp2_with fail
              go_loopg [5, 11] 1 (fun gg e i wr => gg = 1 ∧ e = .int .i64 1 ∧ i = .int .i64 0 ∧ BlkT w wr [.string rn, (.slice q1 l1 j1), (.slice q2 l2 j2), (.slice q3 l3 j3), (.slice q4 l4 j4), .string ety, (.slice q5 l5 j5)] 49)
              case atStart => exact ⟨rfl, rfl, rfl, HT.out⟩
              case round =>
                obtain ⟨rfl, rfl, rfl, hTr⟩ := hrel
                have HT2 := hid hTr
                have a1 : wr.cell? ⟨w.heap.size, 4, none⟩ = some (.slice q4 l4 j4) := hTr.c 4
                clear hTr
                by_cases hlt : 0 < l4
                · have i2 : (0 : Int) < (l4 : Int) := by omega
                  go_wp2_with fail
                  go_meet
                  case rel => exact ⟨rfl, HT2.out⟩
                · first
                  | (exfalso; omega)
                  | (obtain rfl : l4 = 0 := by omega
                     go_wp2_with fail
                     go_meet
                     case rel => exact ⟨rfl, HT2.out⟩)
            case rest =>
              obtain ⟨rfl, hT9⟩ := hcut
              clear HT
              have HT := hid hT9
              clear hT9
              go_wp2_with fail
              go_ret
              exact ⟨rfl, HT.out.bel⟩
  · have HIN : Hid (∀ W, Calls Tryz.prog 17 #[.int .i64 (l1 : Int), .int .i64 1, .int .i64 3] W fun e w' => e = .returned (.bool false) ∧ w' = W) := fun W => in_any (l1 : Int) _ _ false (say_false (by omega)) W
    have cs : ∀ W, BlkT w W [.string rn, (.slice q1 l1 j1), (.slice q2 l2 j2), (.slice q3 l3 j3), (.slice q4 l4 j4), .string ety, (.slice q5 l5 j5)] 49 → W.cell? ⟨w.heap.size, 1, none⟩ = some (.slice q1 l1 j1) ∧ W.cell? ⟨w.heap.size, 2, none⟩ = some (.slice q2 l2 j2) ∧ W.cell? ⟨w.heap.size, 3, none⟩ = some (.slice q3 l3 j3) ∧ W.cell? ⟨w.heap.size, 4, none⟩ = some (.slice q4 l4 j4) := fun W h => ⟨h.c 1, h.c 2, h.c 3, h.c 4⟩
    have HCS := hid cs
    clear cs hT h1 h2 h3 h4 h5 a0 a1 a2 a3 a4 a5 hnt hl1 hl2 hl3 hl4 hl5 hf0 hsz hwf hc1
    go_enter Tryz.func36, Tryz.ntmps36
    go_upto_block 0 with (first
      | (go_at_call 17; refine (HIN.out _).mono ?_; rintro e w' ⟨rfl, rfl⟩)
      | (go_at_call 72; refine (HFN.out _).mono ?_; rintro e w2 ⟨rfl, hb_⟩; have HT2 : Hid (BlkT w w2 [.string rn, (.slice q1 l1 j1), (.slice q2 l2 j2), (.slice q3 l3 j3), (.slice q4 l4 j4), .string ety, (.slice q5 l5 j5)] 49) := HT.out.next hb_; obtain ⟨g1, g2, g3, g4⟩ := HCS.out _ HT2.out; clear hb_))
    clear HT g1 g2 g3 g4
    have HT := HT2
    clear HT2
    go_upto_block 0 with fail
    go_cut [5, 7] from 42 to 73 (fun e _ wr => e = .int .i64 1 ∧ BlkT w wr [.string rn, (.slice q1 l1 j1), (.slice q2 l2 j2), (.slice q3 l3 j3), (.slice q4 l4 j4), .string ety, (.slice q5 l5 j5)] 49)
    case first =>
      go_wp2_with fail
      go_loopg [5, 7] 1 (fun gg e i wr => gg = 1 ∧ e = .int .i64 1 ∧ i = .int .i64 0 ∧ BlkT w wr [.string rn, (.slice q1 l1 j1), (.slice q2 l2 j2), (.slice q3 l3 j3), (.slice q4 l4 j4), .string ety, (.slice q5 l5 j5)] 49)
      case atStart => exact ⟨rfl, rfl, rfl, HT.out⟩
      case round =>
        obtain ⟨rfl, rfl, rfl, hTr⟩ := hrel
        have HT2 := hid hTr
        have a1 : wr.cell? ⟨w.heap.size, 1, none⟩ = some (.slice q1 l1 j1) := hTr.c 1
        clear hTr
        by_cases hlt : 0 < l1
        · have i2 : (0 : Int) < (l1 : Int) := by omega
          go_wp2_with fail
          go_meet
          case rel => exact ⟨rfl, HT2.out⟩
        · first
          | (exfalso; omega)
          | (obtain rfl : l1 = 0 := by omega
             go_wp2_with fail
             go_meet
             case rel => exact ⟨rfl, HT2.out⟩)
    case rest =>
      obtain ⟨rfl, hT9⟩ := hcut
      clear HT
      have HT := hid hT9
      clear hT9
      go_upto_block 2 with fail
      go_cut [5, 8] from 74 to 103 (fun e _ wr => e = .int .i64 1 ∧ BlkT w wr [.string rn, (.slice q1 l1 j1), (.slice q2 l2 j2), (.slice q3 l3 j3), (.slice q4 l4 j4), .string ety, (.slice q5 l5 j5)] 49)
      case first =>
        go_wp2_with fail
        go_loopg [5, 8] 1 (fun gg e i wr => gg = 1 ∧ e = .int .i64 1 ∧ i = .int .i64 0 ∧ BlkT w wr [.string rn, (.slice q1 l1 j1), (.slice q2 l2 j2), (.slice q3 l3 j3), (.slice q4 l4 j4), .string ety, (.slice q5 l5 j5)] 49)
        case atStart => exact ⟨rfl, rfl, rfl, HT.out⟩
        case round =>
          obtain ⟨rfl, rfl, rfl, hTr⟩ := hrel
          have HT2 := hid hTr
          have a1 : wr.cell? ⟨w.heap.size, 2, none⟩ = some (.slice q2 l2 j2) := hTr.c 2
          clear hTr
          by_cases hlt : 0 < l2
          · have i2 : (0 : Int) < (l2 : Int) := by omega
            go_wp2_with fail
            go_meet
            case rel => exact ⟨rfl, HT2.out⟩
          · first
            | (exfalso; omega)
            | (obtain rfl : l2 = 0 := by omega
               go_wp2_with fail
               go_meet
               case rel => exact ⟨rfl, HT2.out⟩)
      case rest =>
        obtain ⟨rfl, hT9⟩ := hcut
        clear HT
        have HT := hid hT9
        clear hT9
        go_upto_block 4 with fail
        go_cut [5, 9] from 104 to 169 (fun e _ wr => e = .int .i64 1 ∧ BlkT w wr [.string rn, (.slice q1 l1 j1), (.slice q2 l2 j2), (.slice q3 l3 j3), (.slice q4 l4 j4), .string ety, (.slice q5 l5 j5)] 49)
        case first =>
          go_wp2_with fail
          go_loopg [5, 9] 1 (fun gg e i wr => gg = 1 ∧ e = .int .i64 1 ∧ i = .int .i64 0 ∧ BlkT w wr [.string rn, (.slice q1 l1 j1), (.slice q2 l2 j2), (.slice q3 l3 j3), (.slice q4 l4 j4), .string ety, (.slice q5 l5 j5)] 49)
          case atStart => exact ⟨rfl, rfl, rfl, HT.out⟩
          case round =>
            obtain ⟨rfl, rfl, rfl, hTr⟩ := hrel
            have HT2 := hid hTr
            have a1 : wr.cell? ⟨w.heap.size, 3, none⟩ = some (.slice q3 l3 j3) := hTr.c 3
            clear hTr
            by_cases hlt : 0 < l3
            · have i2 : (0 : Int) < (l3 : Int) := by omega
              go_wp2_with fail
              go_meet
              case rel => exact ⟨rfl, HT2.out⟩
            · first
              | (exfalso; omega)
              | (obtain rfl : l3 = 0 := by omega
                 go_wp2_with fail
                 go_meet
                 case rel => exact ⟨rfl, HT2.out⟩)
        case rest =>
          obtain ⟨rfl, hT9⟩ := hcut
          clear HT
          have HT := hid hT9
          clear hT9
          go_upto_block 6 with fail
          go_cut [5, 11] from 170 to 187 (fun e _ wr => e = .int .i64 1 ∧ BlkT w wr [.string rn, (.slice q1 l1 j1), (.slice q2 l2 j2), (.slice q3 l3 j3), (.slice q4 l4 j4), .string ety, (.slice q5 l5 j5)] 49)
          case first =>
            go_wp2_with fail
            go_loopg [5, 11] 1 (fun gg e i wr => gg = 1 ∧ e = .int .i64 1 ∧ i = .int .i64 0 ∧ BlkT w wr [.string rn, (.slice q1 l1 j1), (.slice q2 l2 j2), (.slice q3 l3 j3), (.slice q4 l4 j4), .string ety, (.slice q5 l5 j5)] 49)
            case atStart => exact ⟨rfl, rfl, rfl, HT.out⟩
            case round =>
              obtain ⟨rfl, rfl, rfl, hTr⟩ := hrel
              have HT2 := hid hTr
              have a1 : wr.cell? ⟨w.heap.size, 4, none⟩ = some (.slice q4 l4 j4) := hTr.c 4
              clear hTr
              by_cases hlt : 0 < l4
              · have i2 : (0 : Int) < (l4 : Int) := by omega
                go_wp2_with fail
                go_meet
                case rel => exact ⟨rfl, HT2.out⟩
              · first
                | (exfalso; omega)
                | (obtain rfl : l4 = 0 := by omega
                   go_wp2_with fail
                   go_meet
                   case rel => exact ⟨rfl, HT2.out⟩)
          case rest =>
            obtain ⟨rfl, hT9⟩ := hcut
            clear HT
            have HT := hid hT9
            clear hT9
            go_wp2_with fail
            go_ret
            exact ⟨rfl, HT.out.bel⟩
theorem ruleFault_any (ts : List Tp) (r : Rl) (hwf : (∀ t, t ∈ r.w → Wfc t.c) ∧ (∀ t, t ∈ r.t → Wfc t.c) ∧ (∀ m, m ∈ r.m → Wfc m.p.c)) (tv u1 u2 u3 u4 u5 : Value) (w : World) (hT : Rd w (.row 72 2 (ts.map encY)) tv) (h1 : Rd w (.row 65 18 (r.w.map encP)) u1) (h2 : Rd w (.row 65 18 (r.t.map encP)) u2) (h3 : Rd w (.row 68 20 (r.m.map encM)) u3) (h4 : Rd w (.row 103 3 (r.k.map encK)) u4) (h5 : Rd w (.row 61 6 (r.e.v.map encO)) u5) :
    Calls Tryz.prog 36 #[tv, .agg #[.string r.n, u1, u2, u3, u4, .string r.e.ty, u5]] w fun e w' => e = .returned (.int .i64 (rck ts r)) ∧ Below w.heap.size w w' := by
  unfold rck
  by_cases hf : frn r.n = 0
  · rw [if_neg (fun c => c hf)]
    by_cases hs : szs r
    · rw [if_neg (fun c => c hs)]
      exact ruleFault_ok ts r hwf tv u1 u2 u3 u4 u5 w hT h1 h2 h3 h4 h5 hf hs
    · rw [if_pos hs]
      exact ruleFault_size ts r hwf tv u1 u2 u3 u4 u5 w hT h1 h2 h3 h4 h5 1 rfl hf hs
  · rw [if_pos hf]
    exact ruleFault_name ts r hwf tv u1 u2 u3 u4 u5 w hT h1 h2 h3 h4 h5 _ rfl hf
end Go.Proofs.YthndlfdbmljkhaaGreatDoor.Chk
namespace Go.Proofs.YthndlfdbmljkhaaGreatDoor.Chk
open Go.ChangeShapes Go.WideShapes Go.ChangeAt Go.RowKit Go.Maps
set_option linter.unusedVariables false
set_option linter.unusedSimpArgs false
set_option maxRecDepth 20000
/-- The conditions of a rule are conditions. -/
def Wfr (r : Rl) : Prop := (∀ t, t ∈ r.w → Wfc t.c) ∧ (∀ t, t ∈ r.t → Wfc t.c) ∧ (∀ m, m ∈ r.m → Wfc m.p.c)
/-- What is wrong with a book. -/
def bok (ts : List Tp) (rs : List Rl) : Int := bkf (rck ts) ts rs
theorem bookFault_any (ts : List Tp) (rs : List Rl) (hwf : ∀ r, r ∈ rs → Wfr r) (tv rv : Value) (w : World) (hT : Rd w (.row 72 2 (ts.map encY)) tv) (hR : Rd w (.row 49 7 (rs.map encR)) rv) :
    Calls Tryz.prog 16 #[.agg #[tv, rv]] w fun e w' => e = .returned (.int .i64 (bok ts rs)) ∧ Below w.heap.size w w' :=
  bookFault_of (rck ts) ts rs tv rv w hT hR fun x hx W us hW hl => by
    obtain ⟨v1, v2, v3, v4, v5, rfl, h1, h2, h3, h4, h5⟩ := rdR hl
    exact ruleFault_any ts x (hwf x hx) tv v1 v2 v3 v4 v5 W (hT.later hW) h1 h2 h3 h4 h5
end Go.Proofs.YthndlfdbmljkhaaGreatDoor.Chk
namespace Go.Proofs.YthndlfdbmljkhaaGreatDoor.V4
open Go.ChangeShapes Go.WideShapes Go.ChangeAt Go.RowKit
set_option linter.unusedVariables false
set_option linter.unusedSimpArgs false
set_option maxRecDepth 20000
/-- A value: kind, number, text. A field: name, kind. A type: name, fields. -/
structure Vl where
  k : Int
  n : Int
  s : ByteArray
structure Fd where
  s : ByteArray
  k : Int
structure Ty where
  s : ByteArray
  fs : List Fd
def eqS (a b : ByteArray) : Bool := a.toList == b.toList
def vchk (v : Vl) : Int :=
  if v.k ≠ 1 ∧ v.k ≠ 2 then 3
  else if (v.k = 1 ∧ v.s.toList ≠ []) ∨ (v.k = 2 ∧ v.n ≠ 0) then 4
  else if 20 < v.s.size then 1
  else if v.n < -1125899906842624 ∨ 1125899906842624 < v.n then 2 else 0
/-- The first error of n ones. -/
def fst (f : Nat → Int) : Nat → Int
  | 0 => 0
  | n + 1 => if fst f n ≠ 0 then fst f n else f n
theorem fst_hit {f : Nat → Int} {k n : Nat} (h0 : fst f k = 0) (h1 : f k ≠ 0) (hk : k < n) : fst f n = f k := by
  induction n with
  | zero => omega
  | succ n ih =>
    unfold fst
    by_cases e : k = n
    · subst e; simp [h0]
    · have := ih (by omega)
      rw [if_pos (by rw [this]; exact h1), this]
theorem fst_step {f : Nat → Int} {k : Nat} (h0 : fst f k = 0) (h1 : f k = 0) : fst f (k + 1) = 0 := by
  unfold fst; simp [h0, h1]
theorem fst_zero {f : Nat → Int} {n : Nat} (h : fst f n = 0) : ∀ k, k < n → f k = 0 := by
  induction n with
  | zero => intro k hk; omega
  | succ n ih =>
    unfold fst at h
    by_cases e : fst f n = 0
    · simp [e] at h
      intro k hk
      by_cases c : k = n
      · subst c; exact h
      · exact ih e k (by omega)
    · simp [e] at h
theorem size_nil {s : ByteArray} (h : s.toList = []) : s.size = 0 := by
  rw [Lib.toList_data] at h
  have := congrArg List.length h
  simpa using this
def byteN (s : ByteArray) (i : Nat) : Int := ((s.data.toList.getD i 0).toNat : Int)
def isL (c : Int) : Prop := 97 ≤ c ∧ c ≤ 122
def isD (c : Int) : Prop := 48 ≤ c ∧ c ≤ 57
instance (c : Int) : Decidable (isL c) := by unfold isL; infer_instance
instance (c : Int) : Decidable (isD c) := by unfold isD; infer_instance
/-- What is wrong with the sign at i of a name. -/
def sgn (s : ByteArray) (i : Nat) : Int := if isL (byteN s i) ∨ (i ≠ 0 ∧ isD (byteN s i)) then 0 else 4
def nchk (s : ByteArray) : Int := if s.size < 1 ∨ 10 < s.size then 1 else fst (sgn s) s.size
/-- The place of a field, from place k on. -/
def fnd (name : ByteArray) : List Fd → Nat → Int
  | [], _ => -1
  | f :: l, k => if eqS f.s name = true then (k : Int) else fnd name l (k + 1)
def fchk (fs : List Fd) (i : Nat) : Int :=
  match fs[i]? with
  | none => 0
  | some f => if nchk f.s ≠ 0 then nchk f.s else if f.k ≠ 1 ∧ f.k ≠ 2 then 3 else if 0 ≤ fnd f.s (fs.take i) 0 then 7 else 0
def tchk (t : Ty) : Int := if nchk t.s ≠ 0 then nchk t.s else if 4 < t.fs.length then 1 else fst (fchk t.fs) t.fs.length
def vat (l : List Vl) (i : Nat) : Int := match l[i]? with | none => 0 | some v => vchk v
def kat (l : List Vl) (fs : List Fd) (i : Nat) : Int := match l[i]?, fs[i]? with | some v, some f => if v.k ≠ f.k then 13 else 0 | _, _ => 0
def fit (t : Ty) (l : List Vl) : Int :=
  if tchk t ≠ 0 then tchk t else if fst (vat l) l.length ≠ 0 then fst (vat l) l.length
  else if l.length ≠ t.fs.length then 13 else fst (kat l t.fs) l.length
abbrev vV (v : Vl) : Value := .agg #[.int .i64 v.k, .int .i64 v.n, .string v.s]
def FieldsAt (w : World) (v : Value) (fs : List Fd) : Prop :=
  ∃ p cap, v = .slice p fs.length cap ∧ fs.length ≤ cap ∧ cap ≤ maxLen ∧ (0 < fs.length → ∃ g off, p = some ⟨g, off, none⟩ ∧ ∀ j (hj : j < fs.length), g < w.heap.size ∧ w.cell? ⟨g, off + j * 2, none⟩ = some (.string fs[j].s) ∧ w.cell? ⟨g, off + j * 2 + 1, none⟩ = some (.int .i64 fs[j].k))
def ValsAt (w : World) (v : Value) (l : List Vl) : Prop :=
  ∃ p cap, v = .slice p l.length cap ∧ l.length ≤ cap ∧ cap ≤ maxLen ∧ (0 < l.length → ∃ g off, p = some ⟨g, off, none⟩ ∧ ∀ j (hj : j < l.length), g < w.heap.size ∧ w.cell? ⟨g, off + j * 3, none⟩ = some (.int .i64 l[j].k) ∧ w.cell? ⟨g, off + j * 3 + 1, none⟩ = some (.int .i64 l[j].n) ∧ w.cell? ⟨g, off + j * 3 + 2, none⟩ = some (.string l[j].s))
theorem FieldsAt.below {w w' : World} {v : Value} {fs : List Fd} (h : FieldsAt w v fs) (b : Below w.heap.size w w') : FieldsAt w' v fs := by
  obtain ⟨p, cap, h1, hc, hm, h2⟩ := h
  refine ⟨p, cap, h1, hc, hm, fun h0 => ?_⟩
  obtain ⟨g, off, h3, h4⟩ := h2 h0
  refine ⟨g, off, h3, fun j hj => ?_⟩
  obtain ⟨a, b0, b1⟩ := h4 j hj
  exact ⟨Nat.lt_of_lt_of_le a b.size, (b.cell (p := ⟨g, off + j * 2, none⟩) a).trans b0, (b.cell (p := ⟨g, off + j * 2 + 1, none⟩) a).trans b1⟩
theorem ValsAt.below {w w' : World} {v : Value} {fs : List Vl} (h : ValsAt w v fs) (b : Below w.heap.size w w') : ValsAt w' v fs := by
  obtain ⟨p, cap, h1, hc, hm, h2⟩ := h
  refine ⟨p, cap, h1, hc, hm, fun h0 => ?_⟩
  obtain ⟨g, off, h3, h4⟩ := h2 h0
  refine ⟨g, off, h3, fun j hj => ?_⟩
  obtain ⟨a, b0, b1, b2⟩ := h4 j hj
  exact ⟨Nat.lt_of_lt_of_le a b.size, (b.cell (p := ⟨g, off + j * 3, none⟩) a).trans b0, (b.cell (p := ⟨g, off + j * 3 + 1, none⟩) a).trans b1, (b.cell (p := ⟨g, off + j * 3 + 2, none⟩) a).trans b2⟩
theorem below_trans {B B' : Nat} {w w1 w2 : World} (h : Below B w w1) (h2 : Below B' w1 w2) (hb : B ≤ B') : Below B w w2 :=
  ⟨h2.os.trans h.os, h2.tape.trans h.tape, h2.output.trans h.output, Nat.le_trans h.size h2.size, fun k hk => (h2.block k (by omega)).trans (h.block k hk)⟩
end Go.Proofs.YthndlfdbmljkhaaGreatDoor.V4
namespace Go.Proofs.YthndlfdbmljkhaaGreatDoor.V4
open Go.ChangeShapes Go.WideShapes Go.ChangeAt Go.RowKit
set_option linter.unusedVariables false
set_option linter.unusedSimpArgs false
set_option maxRecDepth 20000
theorem ret_int {k : IntKind} {a b : Int} (h : a = b) : Ending.returned (.int k a) = .returned (.int k b) := by rw [h]
theorem vchk_eq (v : Vl) : vchk v = if v.k = 1 then (if v.s.toList ≠ [] then 4 else if v.n < -1125899906842624 ∨ 1125899906842624 < v.n then 2 else 0) else if v.k ≠ 2 then 3 else if v.n ≠ 0 then 4 else if 20 < v.s.size then 1 else 0 := by
  unfold vchk
  by_cases h1 : v.k = 1
  · by_cases h2 : v.s.toList = []
    · have := size_nil h2
      simp [h1, h2, this]
    · simp [h1, h2]
  · by_cases h2 : v.k = 2
    · by_cases h3 : v.n = 0
      · simp [h2, h3]
      · simp [h2, h3]
    · simp [h1, h2]
set_option maxHeartbeats 2000000 in
theorem check_any (v : Vl) (w : World) :
    Calls Tryz.prog 143 #[vV v] w fun e w' => e = .returned (.int .i64 (vchk v)) ∧ Below w.heap.size w w' := by
  obtain ⟨k, n, s⟩ := v
  unfold vV
  have hz : s.toList = [] → s.size = 0 := size_nil
  have HZ : Hid (s.toList = [] → s.size = 0) := hz
  clear hz
  go_enter Tryz.func143, Tryz.ntmps143
  go_wp2
  all_goals
    go_ret
    refine ⟨ret_int ?_, (Below.refl _ _).alloc (Nat.le_refl _) _⟩
    have hz := HZ.out
    rw [vchk_eq]
    simp_all <;> omega
set_option maxHeartbeats 2000000 in
theorem vfault_any (v : Vl) (w : World) :
    Calls Tryz.prog 79 #[vV v] w fun e w' => e = .returned (.int .i64 (vchk v)) ∧ Below w.heap.size w w' := by
  obtain ⟨k, n, s⟩ := v
  unfold vV
  go_enter Tryz.func79, Tryz.ntmps79
  go_wp2
  all_goals
    go_ret
    refine ⟨ret_int ?_, (Below.refl _ _).alloc (Nat.le_refl _) _⟩
    rw [vchk_eq]
    simp_all <;> omega
end Go.Proofs.YthndlfdbmljkhaaGreatDoor.V4
namespace Go.Proofs.YthndlfdbmljkhaaGreatDoor.V4
open Go.ChangeShapes Go.WideShapes Go.ChangeAt Go.RowKit
set_option linter.unusedVariables false
set_option linter.unusedSimpArgs false
set_option maxRecDepth 20000
theorem byteN_at (s : ByteArray) (k : Nat) (h : k < s.size) : byteN s k = (s[k].toNat : Int) := by
  unfold byteN
  have h' : k < s.data.toList.length := by simpa using h
  rw [List.getD_eq_getElem?_getD, List.getElem?_eq_getElem h']
  rfl
theorem sgn_at (s : ByteArray) (k : Nat) (h : k < s.size) : sgn s k = if (97 ≤ (s[k].toNat : Int) ∧ (s[k].toNat : Int) ≤ 122) ∨ (k ≠ 0 ∧ 48 ≤ (s[k].toNat : Int) ∧ (s[k].toNat : Int) ≤ 57) then 0 else 4 := by
  unfold sgn isL isD
  rw [byteN_at s k h]
theorem nchk_mid {s : ByteArray} (h1 : 1 ≤ s.size) (h2 : s.size ≤ 10) : nchk s = fst (sgn s) s.size := by
  unfold nchk; rw [if_neg (by omega)]
theorem wrap_byte (c : UInt8) : wrap64 (c.toNat : Int) = (c.toNat : Int) := by
  have := c.toNat_lt
  unfold wrap64
  omega
/-- A Bool that tells whether P holds. -/
def Say (b : Bool) (P : Prop) : Prop := b = true ↔ P
theorem bool_of (P : Prop) [Decidable P] : ∃ b : Bool, Say b P := ⟨decide P, by simp [Say]⟩
theorem Say.yes {P : Prop} (h : P) : Say true P := by simp [Say, h]
theorem Say.no {P : Prop} (h : ¬ P) : Say false P := by simp [Say, h]
theorem Say.t {P : Prop} (h : Say true P) : P := by simpa [Say] using h
theorem Say.f {P : Prop} (h : Say false P) : ¬ P := by simpa [Say] using h
theorem ret_bool {a b : Bool} (h : a = b) : Ending.returned (.bool a) = .returned (.bool b) := by rw [h]
theorem isDigit_any (c : Int) (r : Bool) (h : Say r ((48 : Int) ≤ c ∧ c ≤ 57)) (w : World) :
    Calls Tryz.prog 133 #[.int .u8 c] w fun e w' => e = .returned (.bool r) ∧ w' = w := by
  have H : Hid (Say r ((48 : Int) ≤ c ∧ c ≤ 57)) := h
  clear h
  go_enter Tryz.func133, Tryz.ntmps133
  go_wp2
  all_goals
    go_ret
    exact ⟨ret_bool (by have h := H.out; unfold Say at h; rw [Bool.eq_iff_iff, h]; simp <;> omega), rfl⟩
theorem isLetter_any (c : Int) (r : Bool) (h : Say r ((97 : Int) ≤ c ∧ c ≤ 122)) (w : World) :
    Calls Tryz.prog 134 #[.int .u8 c] w fun e w' => e = .returned (.bool r) ∧ w' = w := by
  have H : Hid (Say r ((97 : Int) ≤ c ∧ c ≤ 122)) := h
  clear h
  go_enter Tryz.func134, Tryz.ntmps134
  go_wp2
  all_goals
    go_ret
    exact ⟨ret_bool (by have h := H.out; unfold Say at h; rw [Bool.eq_iff_iff, h]; simp <;> omega), rfl⟩
theorem in_any (a b c : Int) (r : Bool) (h : Say r (b ≤ a ∧ a ≤ c)) (w : World) :
    Calls Tryz.prog 17 #[.int .i64 a, .int .i64 b, .int .i64 c] w fun e w' => e = .returned (.bool r) ∧ w' = w := by
  have H : Hid (Say r (b ≤ a ∧ a ≤ c)) := h
  clear h
  go_enter Tryz.func17, Tryz.ntmps17
  go_wp2
  all_goals
    go_ret
    exact ⟨ret_bool (by have h := H.out; unfold Say at h; rw [Bool.eq_iff_iff, h]; simp <;> omega), rfl⟩
set_option maxHeartbeats 2000000 in
theorem name_any (s : ByteArray) (w : World) :
    Calls Tryz.prog 97 #[.string s] w fun e w' => e = .returned (.int .i64 (nchk s)) ∧ w' = w := by
  by_cases hsz : 1 ≤ s.size ∧ s.size ≤ 10
  · obtain ⟨h1, h2⟩ := hsz
    have hp : 0 < s.size := by omega
    have HE : Hid (nchk s = fst (sgn s) s.size) := nchk_mid h1 h2
    have HS : Hid (∀ k (h : k < s.size), sgn s k = if (97 ≤ (s[k].toNat : Int) ∧ (s[k].toNat : Int) ≤ 122) ∨ (k ≠ 0 ∧ 48 ≤ (s[k].toNat : Int) ∧ (s[k].toNat : Int) ≤ 57) then 0 else 4) := sgn_at s
    by_cases hd : (48 : Int) ≤ (s[0].toNat : Int) ∧ (s[0].toNat : Int) ≤ 57
    · have hx : fst (sgn s) s.size = 4 := by
        have e := sgn_at s 0 hp
        rw [if_neg (by omega)] at e
        rw [fst_hit (k := 0) rfl (by rw [e]; omega) hp, e]
      have HX : Hid (fst (sgn s) s.size = 4) := hx
      have HD : Hid ((48 : Int) ≤ (s[0].toNat : Int) ∧ (s[0].toNat : Int) ≤ 57) := hd
      clear hx hd
      go_enter Tryz.func97, Tryz.ntmps97
      go_wp2_with (go_at_call 133; refine (isDigit_any _ true (Say.yes HD.out) _).mono ?_; rintro e w' ⟨rfl, rfl⟩)
      go_ret
      exact ⟨ret_int (by rw [HE.out, HX.out]), rfl⟩
    · have HD : Hid (¬ ((48 : Int) ≤ (s[0].toNat : Int) ∧ (s[0].toNat : Int) ≤ 57)) := hd
      clear hd
      go_enter Tryz.func97, Tryz.ntmps97
      go_wp2_with (go_at_call 133; refine (isDigit_any _ false (Say.no HD.out) _).mono ?_; rintro e w' ⟨rfl, rfl⟩)
      go_loop [17] (fun i => ∃ k : Nat, k ≤ s.size ∧ i = .int .i64 k ∧ fst (sgn s) k = 0) (fun i => s.size - (intOf i).toNat)
      case atStart => exact ⟨0, Nat.zero_le _, rfl, rfl⟩
      case round =>
        obtain ⟨k, hk, rfl, hf⟩ := hrel
        have HF : Hid (fst (sgn s) k = 0) := hf
        clear hf
        by_cases hlt : k < s.size
        · have HK : Hid (sgn s k = if (97 ≤ (s[k].toNat : Int) ∧ (s[k].toNat : Int) ≤ 122) ∨ (k ≠ 0 ∧ 48 ≤ (s[k].toNat : Int) ∧ (s[k].toNat : Int) ≤ 57) then 0 else 4) := HS.out k hlt
          have HD' : Hid (k = 0 → ¬ (48 ≤ (s[k].toNat : Int) ∧ (s[k].toNat : Int) ≤ 57)) := fun h => by subst h; exact HD.out
          obtain ⟨bl, hbl⟩ := bool_of ((97 : Int) ≤ (s[k].toNat : Int) ∧ (s[k].toNat : Int) ≤ 122)
          obtain ⟨bd, hbd⟩ := bool_of ((48 : Int) ≤ (s[k].toNat : Int) ∧ (s[k].toNat : Int) ≤ 57)
          have HL : Hid (Say bl ((97 : Int) ≤ (s[k].toNat : Int) ∧ (s[k].toNat : Int) ≤ 122)) := hbl
          have HDG : Hid (Say bd ((48 : Int) ≤ (s[k].toNat : Int) ∧ (s[k].toNat : Int) ≤ 57)) := hbd
          clear hbl hbd
          cases bl <;> cases bd
          all_goals go_wp2_with (first | (go_at_call 133; refine (isDigit_any _ _ HDG.out _).mono ?_; rintro e w' ⟨rfl, rfl⟩) | (go_at_call 134; refine (isLetter_any _ _ HL.out _).mono ?_; rintro e w' ⟨rfl, rfl⟩))
          all_goals
            have hl := HL.out
            have hdg := HDG.out
            simp [Say] at hl hdg
            have e := HK.out
            have e2 := HD'.out
          · rw [if_neg (by omega)] at e
            go_ret
            exact ⟨ret_int (by rw [HE.out, fst_hit HF.out (by rw [e]; omega) hlt, e]), rfl⟩
          all_goals
            rw [if_pos (by omega)] at e
            have HEE : Hid (sgn s k = 0) := e
            clear e e2 hl hdg
            go_round
            case rel => exact ⟨k + 1, by omega, by go_num, fst_step HF.out HEE.out⟩
            case measure => simp [intOf]; omega
        · obtain rfl : k = s.size := by omega
          go_wp2
          go_ret
          exact ⟨ret_int (by rw [HE.out, HF.out]), rfl⟩
  · have he : nchk s = 1 := by unfold nchk; rw [if_pos (by omega)]
    have HE : Hid (nchk s = 1) := he
    clear he
    go_enter Tryz.func97, Tryz.ntmps97
    go_wp2
    all_goals first
      | (go_ret
         exact ⟨ret_int (by rw [HE.out]), rfl⟩)
      | (exfalso; omega)
set_option maxHeartbeats 2000000 in
theorem nfault_any (s : ByteArray) (w : World) :
    Calls Tryz.prog 70 #[.string s] w fun e w' => e = .returned (.int .i64 (nchk s)) ∧ w' = w := by
  by_cases hsz : 1 ≤ s.size ∧ s.size ≤ 10
  · obtain ⟨h1, h2⟩ := hsz
    have HE : Hid (nchk s = fst (sgn s) s.size) := nchk_mid h1 h2
    have HS : Hid (∀ k (h : k < s.size), sgn s k = if (97 ≤ (s[k].toNat : Int) ∧ (s[k].toNat : Int) ≤ 122) ∨ (k ≠ 0 ∧ 48 ≤ (s[k].toNat : Int) ∧ (s[k].toNat : Int) ≤ 57) then 0 else 4) := sgn_at s
    go_enter Tryz.func70, Tryz.ntmps70
    go_wp2_with (go_at_call 17; refine (in_any _ _ _ true (Say.yes (by omega)) _).mono ?_; rintro e w' ⟨rfl, rfl⟩)
    go_loop [3] (fun i => ∃ k : Nat, k ≤ s.size ∧ i = .int .i64 k ∧ fst (sgn s) k = 0) (fun i => s.size - (intOf i).toNat)
    case atStart => exact ⟨0, Nat.zero_le _, rfl, rfl⟩
    case round =>
      obtain ⟨k, hk, rfl, hf⟩ := hrel
      have HF : Hid (fst (sgn s) k = 0) := hf
      clear hf
      by_cases hlt : k < s.size
      · have HK : Hid (sgn s k = if (97 ≤ (s[k].toNat : Int) ∧ (s[k].toNat : Int) ≤ 122) ∨ (k ≠ 0 ∧ 48 ≤ (s[k].toNat : Int) ∧ (s[k].toNat : Int) ≤ 57) then 0 else 4) := HS.out k hlt
        obtain ⟨bl, hbl⟩ := bool_of ((97 : Int) ≤ (s[k].toNat : Int) ∧ (s[k].toNat : Int) ≤ 122)
        obtain ⟨bd, hbd⟩ := bool_of ((48 : Int) ≤ (s[k].toNat : Int) ∧ (s[k].toNat : Int) ≤ 57)
        have HL : Hid (Say bl ((97 : Int) ≤ (s[k].toNat : Int) ∧ (s[k].toNat : Int) ≤ 122)) := hbl
        have HDG : Hid (Say bd ((48 : Int) ≤ (s[k].toNat : Int) ∧ (s[k].toNat : Int) ≤ 57)) := hbd
        clear hbl hbd
        have hw64 : wrap64 (s[k].toNat : Int) = (s[k].toNat : Int) := wrap_byte s[k]
        by_cases hk0 : k = 0
        · subst hk0
          cases bl
          all_goals go_wp2_with (go_at_call 17; refine (in_any _ _ _ _ HL.out _).mono ?_; rintro e w' ⟨rfl, rfl⟩)
          all_goals
            have hl := HL.out
            simp [Say] at hl
            have e := HK.out
          · rw [if_neg (by omega)] at e
            go_ret
            exact ⟨ret_int (by rw [HE.out, fst_hit HF.out (by rw [e]; omega) hlt, e]), rfl⟩
          · rw [if_pos (by omega)] at e
            have HEE : Hid (sgn s 0 = 0) := e
            clear e hl
            go_round
            case rel => exact ⟨0 + 1, by omega, by go_num, fst_step HF.out HEE.out⟩
            case measure => simp [intOf]; omega
        · have hkd : decide ((k : Int) = 0) = false := by simp; omega
          have hkb : ((k : Int) == 0) = false := by simp; omega
          cases bl <;> cases bd
          all_goals go_wp2_with (first | (go_at_call_of 17 (Value.int IntKind.i64 97); refine (in_any _ 97 122 _ HL.out _).mono ?_; rintro e w' ⟨rfl, rfl⟩) | (go_at_call_of 17 (Value.int IntKind.i64 48); refine (in_any _ 48 57 _ HDG.out _).mono ?_; rintro e w' ⟨rfl, rfl⟩))
          all_goals
            have hl := HL.out
            have hdg := HDG.out
            simp [Say] at hl hdg
            have e := HK.out
          · rw [if_neg (by omega)] at e
            go_ret
            exact ⟨ret_int (by rw [HE.out, fst_hit HF.out (by rw [e]; omega) hlt, e]), rfl⟩
          all_goals
            rw [if_pos (by omega)] at e
            have HEE : Hid (sgn s k = 0) := e
            clear e hl hdg
            go_round
            case rel => exact ⟨k + 1, by omega, by go_num, fst_step HF.out HEE.out⟩
            case measure => simp [intOf]; omega
      · obtain rfl : k = s.size := by omega
        go_wp2
        go_ret
        exact ⟨ret_int (by rw [HE.out, HF.out]), rfl⟩
  · have he : nchk s = 1 := by unfold nchk; rw [if_pos (by omega)]
    have HE : Hid (nchk s = 1) := he
    clear he
    go_enter Tryz.func70, Tryz.ntmps70
    go_wp2_with (go_at_call 17; refine (in_any _ _ _ false (Say.no (by omega)) _).mono ?_; rintro e w' ⟨rfl, rfl⟩)
    go_ret
    exact ⟨ret_int (by rw [HE.out]), rfl⟩
end Go.Proofs.YthndlfdbmljkhaaGreatDoor.V4
namespace Go.Proofs.YthndlfdbmljkhaaGreatDoor.V4
open Go.ChangeShapes Go.WideShapes Go.ChangeAt Go.RowKit
set_option linter.unusedVariables false
set_option linter.unusedSimpArgs false
set_option maxRecDepth 20000
theorem vat_at {l : List Vl} {k : Nat} (h : k < l.length) : vat l k = vchk l[k] := by unfold vat; rw [List.getElem?_eq_getElem h]
set_option maxHeartbeats 4000000 in
theorem checkAll_any (v : Value) (l : List Vl) (w : World) (hv : ValsAt w v l) :
    Calls Tryz.prog 116 #[v] w fun e w' => e = .returned (.int .i64 (fst (vat l) l.length)) ∧ Below w.heap.size w w' := by
  obtain ⟨p, cap, rfl, hcap, hmax, hp⟩ := hv
  obtain ⟨n, hnl⟩ : ∃ n, l.length = n := ⟨_, rfl⟩
  have HP : Hid (0 < l.length → ∃ g off, p = some ⟨g, off, none⟩ ∧ ∀ j (hj : j < l.length), g < w.heap.size ∧ w.cell? ⟨g, off + j * 3, none⟩ = some (.int .i64 l[j].k) ∧ w.cell? ⟨g, off + j * 3 + 1, none⟩ = some (.int .i64 l[j].n) ∧ w.cell? ⟨g, off + j * 3 + 2, none⟩ = some (.string l[j].s)) := hp
  have HNL : Hid (l.length = n) := hnl
  have hmx : (n : Int) ≤ 9223372036854775807 := by unfold maxLen at hmax; omega
  rw [hnl]
  clear hp hnl hcap hmax
  go_enter Tryz.func116, Tryz.ntmps116
  go_wp2
  go_loopw [8] (fun i wr => ∃ k : Nat, k ≤ n ∧ i = .int .i64 (k : Nat) ∧ fst (vat l) k = 0 ∧ Below w.heap.size w wr) (fun i _ => n + 1 - (intOf i).toNat)
  case atStart => exact ⟨0, by omega, rfl, rfl, Below.refl _ _⟩
  case round =>
    obtain ⟨k, hk, rfl, hf, hB⟩ := hrel
    have HF : Hid (fst (vat l) k = 0) := hf
    have HB : Hid (Below w.heap.size w wr) := hB
    by_cases hlt : k < n
    · have hkd : k < l.length := by have := HNL.out; omega
      obtain ⟨g, off, hg, hc⟩ := HP.out (by omega)
      obtain ⟨hgs, c0, c1, c2⟩ := hc k hkd
      subst hg
      have HV : Hid (vat l k = vchk l[k]) := vat_at hkd
      obtain ⟨d, hdk⟩ : ∃ d, l[k] = d := ⟨_, rfl⟩
      rw [hdk] at c0 c1 c2 HV
      have b0 : wr.cell? ⟨g, off + k * 3, none⟩ = some (.int .i64 d.k) := (hB.cell (p := ⟨g, off + k * 3, none⟩) hgs).trans c0
      have b1 : wr.cell? ⟨g, off + k * 3 + 1, none⟩ = some (.int .i64 d.n) := (hB.cell (p := ⟨g, off + k * 3 + 1, none⟩) hgs).trans c1
      have b2 : wr.cell? ⟨g, off + k * 3 + 2, none⟩ = some (.string d.s) := (hB.cell (p := ⟨g, off + k * 3 + 2, none⟩) hgs).trans c2
      have i1 : (0 : Int) ≤ (k : Int) := by omega
      have i2 : (k : Int) < (n : Int) := by omega
      have hne : wr.heap.size ≠ g := by have := hB.size; omega
      clear hc hdk c0 c1 c2 hgs hf hB hkd
      obtain ⟨r, hr⟩ : ∃ r, vchk d = r := ⟨_, rfl⟩
      have HR : Hid (vchk d = r) := hr
      clear hr
      by_cases hr0 : r = 0
      · subst hr0
        go_wp2_with (go_at_call 143; refine (check_any ⟨d.k, d.n, d.s⟩ _).mono ?_; rintro e w2 ⟨rfl, hb2⟩; rw [show vchk ⟨d.k, d.n, d.s⟩ = 0 from HR.out]; have HB2 : Hid (Below (wr.alloc (.cells #[.int .i64 d.k, .int .i64 d.n, .string d.s] 59)).heap.size (wr.alloc (.cells #[.int .i64 d.k, .int .i64 d.n, .string d.s] 59)) w2) := hb2; clear hb2)
        go_roundw
        case rel => exact ⟨k + 1, by omega, by go_num, fst_step HF.out (HV.out.trans HR.out), below_trans (HB.out.alloc HB.out.size _) HB2.out (by simp; have := HB.out.size; omega)⟩
        case measure => simp [intOf]; omega
      · have hrb : (r == 0) = false := by simpa using hr0
        have hrd : (r != 0) = true := by simpa using hr0
        go_wp2_with (go_at_call 143; refine (check_any ⟨d.k, d.n, d.s⟩ _).mono ?_; rintro e w2 ⟨rfl, hb2⟩; rw [show vchk ⟨d.k, d.n, d.s⟩ = r from HR.out]; have HB2 : Hid (Below (wr.alloc (.cells #[.int .i64 d.k, .int .i64 d.n, .string d.s] 59)).heap.size (wr.alloc (.cells #[.int .i64 d.k, .int .i64 d.n, .string d.s] 59)) w2) := hb2; clear hb2)
        go_ret
        refine ⟨ret_int ?_, below_trans (HB.out.alloc HB.out.size _) HB2.out (by simp; have := HB.out.size; omega)⟩
        rw [fst_hit HF.out (by rw [HV.out, HR.out]; exact hr0) (by have := HNL.out; omega), HV.out, HR.out]
    · obtain rfl : k = n := by omega
      clear hf hB
      go_wp2
      go_ret
      refine ⟨ret_int ?_, HB.out⟩
      exact HF.out.symm
end Go.Proofs.YthndlfdbmljkhaaGreatDoor.V4
namespace Go.Proofs.YthndlfdbmljkhaaGreatDoor.V4
open Go.ChangeShapes Go.WideShapes Go.ChangeAt Go.RowKit
set_option linter.unusedVariables false
set_option linter.unusedSimpArgs false
set_option maxRecDepth 20000
def sgnI (x y : Int) : Int := if x < y then -1 else if y < x then 1 else 0
def ord (a b : Vl) : Int := if a.k = 2 then Lib.compareBytes a.s.data.toList b.s.data.toList else sgnI a.n b.n
def cmpE (a b : Vl) : Int := if vchk a ≠ 0 then vchk a else if vchk b ≠ 0 then vchk b else if a.k ≠ b.k then 13 else 0
def cmpV (a b : Vl) : Int := if cmpE a b ≠ 0 then 0 else ord a b
theorem cmpB_eq : ∀ (x y : List UInt8), Lib.compareBytes x y = if x = y then 0 else if Op.bytesLess x y = true then -1 else 1
  | [], [] => by simp [Lib.compareBytes]
  | [], _ :: _ => by simp [Lib.compareBytes, Op.bytesLess]
  | _ :: _, [] => by simp [Lib.compareBytes, Op.bytesLess]
  | a :: x, b :: y => by
    unfold Lib.compareBytes Op.bytesLess
    rw [cmpB_eq x y]
    by_cases h1 : a < b
    · have hne : a ≠ b := fun h => by subst h; exact absurd h1 (by simp [UInt8.lt_iff_toNat_lt])
      simp [h1, hne]
    · by_cases h2 : b < a
      · have hne : a ≠ b := fun h => by subst h; exact absurd h2 (by simp [UInt8.lt_iff_toNat_lt])
        have hbe : (a == b) = false := by simpa using hne
        simp [h1, h2, hne]
      · have he : a = b := by
          apply UInt8.toNat_inj.1
          rw [UInt8.lt_iff_toNat_lt] at h1 h2
          omega
        subst he
        simp [h1]
theorem strCmp_any (a b : ByteArray) (w : World) :
    Calls Tryz.prog 144 #[.string a, .string b] w fun e w' => e = .returned (.int .i64 (Lib.compareBytes a.data.toList b.data.toList)) ∧ w' = w := by
  have c : ∀ w, Calls Tryz.prog 155 #[.string a, .string b] w fun e w' => e = .returned (.int .i64 (Lib.compareBytes a.data.toList b.data.toList)) ∧ w' = w := fun w => by
    go_enter Tryz.func155, Tryz.ntmps155
    go_wp2
    rw [run_callFunc_extern Tryz.func161 (by kernel_rfl) (by kernel_rfl) (by kernel_rfl) (e := Extern.BytealgCompare.compare) (by kernel_rfl), Lib.run_compareString]
    simp only [Result.andThen]
    rw [Oper.upon_value]
    go_wp2
    go_ret
    exact ⟨rfl, rfl⟩
  have C : Hid (∀ w, Calls Tryz.prog 155 #[.string a, .string b] w fun e w' => e = .returned (.int .i64 (Lib.compareBytes a.data.toList b.data.toList)) ∧ w' = w) := c
  clear c
  go_enter Tryz.func144, Tryz.ntmps144
  go_wp2_with (go_at_call 155; refine (C.out _).mono ?_; rintro e w ⟨rfl, rfl⟩)
  go_ret
  exact ⟨rfl, rfl⟩
theorem intCmp_any (a b : Int) (w : World) :
    Calls Tryz.prog 145 #[.int .i64 a, .int .i64 b] w fun e w' => e = .returned (.int .i64 (sgnI a b)) ∧ w' = w := by
  go_enter Tryz.func145, Tryz.ntmps145
  go_wp2
  all_goals
    go_ret
    refine ⟨ret_int ?_, rfl⟩
    unfold sgnI
    (repeat' split) <;> omega
theorem sign_any (a b : Int) (w : World) :
    Calls Tryz.prog 126 #[.int .i64 a, .int .i64 b] w fun e w' => e = .returned (.int .i64 (sgnI a b)) ∧ w' = w := by
  go_enter Tryz.func126, Tryz.ntmps126
  go_wp2
  all_goals
    go_ret
    refine ⟨ret_int ?_, rfl⟩
    unfold sgnI
    (repeat' split) <;> omega
end Go.Proofs.YthndlfdbmljkhaaGreatDoor.V4
namespace Go.Proofs.YthndlfdbmljkhaaGreatDoor.V4
open Go.ChangeShapes Go.WideShapes Go.ChangeAt Go.RowKit
set_option linter.unusedVariables false
set_option linter.unusedSimpArgs false
set_option maxRecDepth 20000
theorem below_two (w : World) (o1 o2 : Obj) : Below w.heap.size w ((w.alloc o1).alloc o2) := ((Below.refl _ w).alloc (Nat.le_refl _) o1).alloc (by simp) o2
theorem below_three (w : World) (o1 o2 o3 : Obj) : Below w.heap.size w (((w.alloc o1).alloc o2).alloc o3) := (below_two w o1 o2).alloc (by simp; omega) o3
set_option maxHeartbeats 2000000 in
theorem ordered_any (a b : Vl) (w : World) (hk : a.k = 1 ∨ a.k = 2) :
    Calls Tryz.prog 80 #[vV a, vV b] w fun e w' => e = .returned (.int .i64 (ord a b)) ∧ Below w.heap.size w w' := by
  obtain ⟨k, n, s⟩ := a
  obtain ⟨k', n', s'⟩ := b
  rcases hk with hk | hk
  · simp only at hk
    subst hk
    have HO : Hid (ord ⟨1, n, s⟩ ⟨k', n', s'⟩ = sgnI n n') := by unfold ord; exact if_neg (by simp)
    unfold vV
    go_enter Tryz.func80, Tryz.ntmps80
    go_wp2_with (go_at_call 126; refine (sign_any _ _ _).mono ?_; rintro e w2 ⟨rfl, rfl⟩)
    go_ret
    exact ⟨ret_int (by rw [HO.out]), below_two w _ _⟩
  · simp only at hk
    subst hk
    have HO : Hid (ord ⟨2, n, s⟩ ⟨k', n', s'⟩ = if s.toList = s'.toList then 0 else if Op.bytesLess s.toList s'.toList = true then -1 else 1) := by
      unfold ord
      rw [Lib.toList_data, Lib.toList_data, ← cmpB_eq]
      exact if_pos rfl
    unfold vV
    go_enter Tryz.func80, Tryz.ntmps80
    go_wp2
    all_goals
      go_ret
      exact ⟨ret_int (by rw [HO.out]; simp_all), below_two w _ _⟩
theorem ret_two {a b c d : Int} (h : a = c) (h2 : b = d) : Ending.returned (.tuple #[.int .i64 a, .int .i64 b]) = .returned (.tuple #[.int .i64 c, .int .i64 d]) := by rw [h, h2]
end Go.Proofs.YthndlfdbmljkhaaGreatDoor.V4
namespace Go.Proofs.YthndlfdbmljkhaaGreatDoor.V4
open Go.ChangeShapes Go.WideShapes Go.ChangeAt Go.RowKit
set_option linter.unusedVariables false
set_option linter.unusedSimpArgs false
set_option maxRecDepth 20000
theorem vals_two {w : World} {g : Nat} (a b : Vl) (hg : g < w.heap.size) (c0 : w.cell? ⟨g, 0, none⟩ = some (.int .i64 a.k)) (c1 : w.cell? ⟨g, 1, none⟩ = some (.int .i64 a.n)) (c2 : w.cell? ⟨g, 2, none⟩ = some (.string a.s)) (c3 : w.cell? ⟨g, 3, none⟩ = some (.int .i64 b.k)) (c4 : w.cell? ⟨g, 4, none⟩ = some (.int .i64 b.n)) (c5 : w.cell? ⟨g, 5, none⟩ = some (.string b.s)) :
    ValsAt w (.slice (some ⟨g, 0, none⟩) 2 2) [a, b] := by
  refine ⟨_, 2, rfl, by simp, by unfold maxLen; omega, fun _ => ⟨g, 0, rfl, fun j hj => ⟨hg, ?_⟩⟩⟩
  have hj' : j = 0 ∨ j = 1 := by simp at hj; omega
  rcases hj' with rfl | rfl
  · exact ⟨c0, c1, c2⟩
  · exact ⟨c3, c4, c5⟩
theorem cell_new {X : World} {cs : Array Value} {t : TypeId} {g j : Nat} {v : Value} (hg : g = X.heap.size) (hv : cs[j]? = some v) : (X.alloc (.cells cs t)).cell? ⟨g, j, none⟩ = some v := by
  subst hg
  have h : (X.alloc (.cells cs t)).heap[X.heap.size]? = some (.cells cs t (0, 0)) := by first | exact heap_alloc_new X _ | exact _root_.Go.heap_alloc_new X _
  rw [cell_of_row _ _ _ _ t (0, 0) h]
  simpa using hv
theorem fst_two (a b : Vl) : fst (vat [a, b]) 2 = if vchk a ≠ 0 then vchk a else vchk b := by
  simp [fst, vat]
set_option maxHeartbeats 4000000 in
theorem compare_any (a b : Vl) (w : World) :
    Calls Tryz.prog 118 #[vV a, vV b] w fun e w' => e = .returned (.tuple #[.int .i64 (cmpV a b), .int .i64 (cmpE a b)]) ∧ Below w.heap.size w w' := by
  obtain ⟨k, n, s⟩ := a
  obtain ⟨k', n', s'⟩ := b
  obtain ⟨r, hr⟩ : ∃ r, fst (vat [⟨k, n, s⟩, ⟨k', n', s'⟩]) 2 = r := ⟨_, rfl⟩
  have HR : Hid (fst (vat [⟨k, n, s⟩, ⟨k', n', s'⟩]) 2 = r) := hr
  have HV : Hid (cmpV ⟨k, n, s⟩ ⟨k', n', s'⟩ = if cmpE ⟨k, n, s⟩ ⟨k', n', s'⟩ ≠ 0 then 0 else ord ⟨k, n, s⟩ ⟨k', n', s'⟩) := rfl
  have HE : Hid (cmpE ⟨k, n, s⟩ ⟨k', n', s'⟩ = if r ≠ 0 then r else if k ≠ k' then 13 else 0) := by
    unfold cmpE
    rw [fst_two] at hr
    by_cases h : vchk ⟨k, n, s⟩ = 0
    · rw [if_neg (by simp [h])] at hr
      rw [if_neg (by simp [h]), hr]
      exact rfl
    · rw [if_pos h] at hr
      rw [if_pos h, ← hr]
      exact (if_pos h).symm
  clear hr
  unfold vV
  go_enter Tryz.func118, Tryz.ntmps118
  go_wp2_with fail
  refine (checkAll_any _ [⟨k, n, s⟩, ⟨k', n', s'⟩] _ (vals_two ⟨k, n, s⟩ ⟨k', n', s'⟩ (by simp) (cell_new (by simp) rfl) (cell_new (by simp) rfl) (cell_new (by simp) rfl) (cell_new (by simp) rfl) (cell_new (by simp) rfl) (cell_new (by simp) rfl))).mono ?_
  rintro e w1 ⟨he1, hb1⟩
  have he1' : e = .returned (.int .i64 r) := he1.trans (ret_int HR.out)
  subst he1'
  have HB1 : Hid (Below w.heap.size w w1) := below_trans (below_three w (.cells #[.int .i64 k, .int .i64 n, .string s] 59) (.cells #[.int .i64 k', .int .i64 n', .string s'] 59) _) hb1 (by simp; omega)
  have c0 : w1.cell? ⟨w.heap.size + 1 + 1, 0, none⟩ = some (.int .i64 k) := (hb1.cell (by simp)).trans (cell_new (by simp) rfl)
  have c1 : w1.cell? ⟨w.heap.size + 1 + 1, 1, none⟩ = some (.int .i64 n) := (hb1.cell (by simp)).trans (cell_new (by simp) rfl)
  have c2 : w1.cell? ⟨w.heap.size + 1 + 1, 2, none⟩ = some (.string s) := (hb1.cell (by simp)).trans (cell_new (by simp) rfl)
  have c3 : w1.cell? ⟨w.heap.size + 1 + 1, 3, none⟩ = some (.int .i64 k') := (hb1.cell (by simp)).trans (cell_new (by simp) rfl)
  have c4 : w1.cell? ⟨w.heap.size + 1 + 1, 4, none⟩ = some (.int .i64 n') := (hb1.cell (by simp)).trans (cell_new (by simp) rfl)
  have c5 : w1.cell? ⟨w.heap.size + 1 + 1, 5, none⟩ = some (.string s') := (hb1.cell (by simp)).trans (cell_new (by simp) rfl)
  clear hb1 he1
  by_cases hr0 : r = 0
  · subst hr0
    by_cases hkk : k = k'
    · subst hkk
      have he : cmpE ⟨k, n, s⟩ ⟨k, n', s'⟩ = 0 := by rw [HE.out]; simp
      have HE0 : Hid (cmpE ⟨k, n, s⟩ ⟨k, n', s'⟩ = 0) := he
      clear he
      by_cases hk2 : k = 2
      · subst hk2
        go_wp2_with (go_at_call 144; refine (strCmp_any _ _ _).mono ?_; rintro e w2 ⟨rfl, rfl⟩)
        go_ret2
        exact ⟨ret_two (by rw [HV.out, HE0.out]; simp [ord]) HE0.out.symm, HB1.out⟩
      · have hkb : (k == 2) = false := by simpa using hk2
        go_wp2_with (go_at_call 145; refine (intCmp_any _ _ _).mono ?_; rintro e w2 ⟨rfl, rfl⟩)
        go_ret2
        exact ⟨ret_two (by rw [HV.out, HE0.out]; simp [ord, hk2]) HE0.out.symm, HB1.out⟩
    · have he : cmpE ⟨k, n, s⟩ ⟨k', n', s'⟩ = 13 := by rw [HE.out]; simp [hkk]
      have HE0 : Hid (cmpE ⟨k, n, s⟩ ⟨k', n', s'⟩ = 13) := he
      clear he
      have hkb : (k == k') = false := by simpa using hkk
      have hkc : (k != k') = true := by simpa using hkk
      go_wp2
      go_ret2
      exact ⟨ret_two (by rw [HV.out, HE0.out]; simp) HE0.out.symm, HB1.out⟩
  · have he : cmpE ⟨k, n, s⟩ ⟨k', n', s'⟩ = r := by rw [HE.out]; simp [hr0]
    have HE0 : Hid (cmpE ⟨k, n, s⟩ ⟨k', n', s'⟩ = r) := he
    clear he
    have hkb : (r == 0) = false := by simpa using hr0
    have hkc : (r != 0) = true := by simpa using hr0
    go_wp2
    go_ret2
    exact ⟨ret_two (by rw [HV.out, HE0.out]; simp [hr0]) HE0.out.symm, HB1.out⟩
end Go.Proofs.YthndlfdbmljkhaaGreatDoor.V4
namespace Go.Proofs.YthndlfdbmljkhaaGreatDoor.V4
open Go.ChangeShapes Go.WideShapes Go.ChangeAt Go.RowKit
set_option linter.unusedVariables false
set_option linter.unusedSimpArgs false
set_option maxRecDepth 20000
def anyS (name : ByteArray) (l : List Fd) : Bool := l.any fun f => eqS f.s name
theorem fnd_any (name : ByteArray) : ∀ (l : List Fd) (k : Nat), 0 ≤ fnd name l k ↔ anyS name l = true
  | [], k => by simp [fnd, anyS]
  | f :: l, k => by
    unfold fnd
    have ih := fnd_any name l (k + 1)
    unfold anyS at ih ⊢
    by_cases h : eqS f.s name = true
    · simp [h]
    · simp only [h, if_false, List.any_cons, Bool.false_or, Bool.not_eq_true] at *
      simpa [h] using ih
def fck (f : Fd) (ahead : List Fd) : Int :=
  if nchk f.s ≠ 0 then nchk f.s else if f.k ≠ 1 ∧ f.k ≠ 2 then 3 else if anyS f.s ahead = true then 7 else 0
theorem fchk_at {fs : List Fd} {k : Nat} (h : k < fs.length) : fchk fs k = fck fs[k] (fs.take k) := by
  unfold fchk fck
  rw [List.getElem?_eq_getElem h]
  simp only [fnd_any]
theorem fnd_hit {name : ByteArray} {l : List Fd} {k : Nat} (h : k < l.length) (he : eqS l[k].s name = true) : fnd name (l.drop k) k = k := by
  rw [List.drop_eq_getElem_cons h]
  unfold fnd
  rw [if_pos he]
theorem fnd_miss {name : ByteArray} {l : List Fd} {k : Nat} (h : k < l.length) (he : eqS l[k].s name = false) : fnd name (l.drop k) k = fnd name (l.drop (k + 1)) (k + 1) := by
  rw [List.drop_eq_getElem_cons h]
  conv => lhs; unfold fnd
  rw [if_neg (by simp [he])]
theorem fnd_end {name : ByteArray} {l : List Fd} : fnd name (l.drop l.length) l.length = -1 := by
  rw [List.drop_length]; rfl
theorem fnd_le (name : ByteArray) : ∀ (l : List Fd) (k : Nat), fnd name l k < 0 ∨ ((k : Int) ≤ fnd name l k ∧ fnd name l k < k + l.length)
  | [], k => by simp [fnd]
  | f :: l, k => by
    unfold fnd
    have ih := fnd_le name l (k + 1)
    split
    · right; simp; omega
    · rcases ih with h | h
      · left; exact h
      · right; simp; omega
set_option maxHeartbeats 4000000 in
theorem find_any (v : Value) (l : List Fd) (name : ByteArray) (w : World) (hv : FieldsAt w v l) :
    Calls Tryz.prog 136 #[v, .string name] w fun e w' => e = .returned (.int .i64 (fnd name l 0)) ∧ Below w.heap.size w w' := by
  obtain ⟨p, cap, rfl, hcap, hmax, hp⟩ := hv
  obtain ⟨n, hnl⟩ : ∃ n, l.length = n := ⟨_, rfl⟩
  have HP : Hid (0 < l.length → ∃ g off, p = some ⟨g, off, none⟩ ∧ ∀ j (hj : j < l.length), g < w.heap.size ∧ w.cell? ⟨g, off + j * 2, none⟩ = some (.string l[j].s) ∧ w.cell? ⟨g, off + j * 2 + 1, none⟩ = some (.int .i64 l[j].k)) := hp
  have HNL : Hid (l.length = n) := hnl
  have hmx : (n : Int) ≤ 9223372036854775807 := by unfold maxLen at hmax; omega
  rw [hnl]
  clear hp hnl hcap hmax
  obtain ⟨R, hR⟩ : ∃ R, fnd name l 0 = R := ⟨_, rfl⟩
  have HR : Hid (fnd name l 0 = R) := hR
  rw [hR]
  clear hR
  go_enter Tryz.func136, Tryz.ntmps136
  go_wp2
  go_loopw [9] (fun i wr => ∃ k : Nat, k ≤ n ∧ i = .int .i64 (k : Nat) ∧ fnd name (l.drop k) k = R ∧ Below w.heap.size w wr) (fun i _ => n + 1 - (intOf i).toNat)
  case atStart => exact ⟨0, by omega, rfl, by rw [List.drop_zero]; exact HR.out, Below.refl _ _⟩
  case round =>
    obtain ⟨k, hk, rfl, hf, hB⟩ := hrel
    have HF : Hid (fnd name (l.drop k) k = R) := hf
    have HB : Hid (Below w.heap.size w wr) := hB
    by_cases hlt : k < n
    · have hkd : k < l.length := by have := HNL.out; omega
      obtain ⟨g, off, hg, hc⟩ := HP.out (by omega)
      obtain ⟨hgs, c0, c1⟩ := hc k hkd
      subst hg
      have HHit : Hid (eqS l[k].s name = true → R = k) := fun h => HF.out.symm.trans (fnd_hit hkd h)
      have HMiss : Hid (eqS l[k].s name = false → fnd name (l.drop (k + 1)) (k + 1) = R) := fun h => (fnd_miss hkd h).symm.trans HF.out
      obtain ⟨d, hdk⟩ : ∃ d, l[k] = d := ⟨_, rfl⟩
      rw [hdk] at c0 c1 HHit HMiss
      have b0 : wr.cell? ⟨g, off + k * 2, none⟩ = some (.string d.s) := (hB.cell (p := ⟨g, off + k * 2, none⟩) hgs).trans c0
      have b1 : wr.cell? ⟨g, off + k * 2 + 1, none⟩ = some (.int .i64 d.k) := (hB.cell (p := ⟨g, off + k * 2 + 1, none⟩) hgs).trans c1
      have i1 : (0 : Int) ≤ (k : Int) := by omega
      have i2 : (k : Int) < (n : Int) := by omega
      have hne : wr.heap.size ≠ g := by have := hB.size; omega
      clear hc hdk c0 c1 hgs hf hB hkd
      by_cases he : d.s.toList = name.toList
      · go_wp2
        go_ret
        exact ⟨ret_int (HHit.out (by simp [eqS, he])).symm, HB.out.alloc HB.out.size _⟩
      · have heb : (d.s.toList == name.toList) = false := by simpa using he
        go_wp2
        go_roundw
        case rel => exact ⟨k + 1, by omega, by go_num, HMiss.out (by simp [eqS, he]), HB.out.alloc HB.out.size _⟩
        case measure => simp [intOf]; omega
    · obtain rfl : k = n := by omega
      have HX : Hid (R = -1) := by rw [← HF.out, ← HNL.out]; exact fnd_end
      clear hf hB
      go_wp2
      go_ret
      exact ⟨ret_int HX.out.symm, HB.out⟩
set_option maxHeartbeats 4000000 in
theorem fieldAt_any (ts : ByteArray) (v : Value) (l : List Fd) (name : ByteArray) (w : World) (hv : FieldsAt w v l) :
    Calls Tryz.prog 123 #[.agg #[.string ts, v], .string name] w fun e w' => e = .returned (.int .i64 (fnd name l 0)) ∧ Below w.heap.size w w' := by
  obtain ⟨p, cap, rfl, hcap, hmax, hp⟩ := hv
  obtain ⟨n, hnl⟩ : ∃ n, l.length = n := ⟨_, rfl⟩
  have HP : Hid (0 < l.length → ∃ g off, p = some ⟨g, off, none⟩ ∧ ∀ j (hj : j < l.length), g < w.heap.size ∧ w.cell? ⟨g, off + j * 2, none⟩ = some (.string l[j].s) ∧ w.cell? ⟨g, off + j * 2 + 1, none⟩ = some (.int .i64 l[j].k)) := hp
  have HNL : Hid (l.length = n) := hnl
  have hmx : (n : Int) ≤ 9223372036854775807 := by unfold maxLen at hmax; omega
  rw [hnl]
  clear hp hnl hcap hmax
  obtain ⟨R, hR⟩ : ∃ R, fnd name l 0 = R := ⟨_, rfl⟩
  have HR : Hid (fnd name l 0 = R) := hR
  rw [hR]
  clear hR
  go_enter Tryz.func123, Tryz.ntmps123
  go_wp2
  go_loop [5] (fun i => ∃ k : Nat, k ≤ n ∧ i = .int .i64 (k : Nat) ∧ fnd name (l.drop k) k = R) (fun i => n + 1 - (intOf i).toNat)
  case atStart => exact ⟨0, by omega, rfl, by rw [List.drop_zero]; exact HR.out⟩
  case round =>
    obtain ⟨k, hk, rfl, hf⟩ := hrel
    have HF : Hid (fnd name (l.drop k) k = R) := hf
    by_cases hlt : k < n
    · have hkd : k < l.length := by have := HNL.out; omega
      obtain ⟨g, off, hg, hc⟩ := HP.out (by omega)
      obtain ⟨hgs, c0, c1⟩ := hc k hkd
      subst hg
      have HHit : Hid (eqS l[k].s name = true → R = k) := fun h => HF.out.symm.trans (fnd_hit hkd h)
      have HMiss : Hid (eqS l[k].s name = false → fnd name (l.drop (k + 1)) (k + 1) = R) := fun h => (fnd_miss hkd h).symm.trans HF.out
      obtain ⟨d, hdk⟩ : ∃ d, l[k] = d := ⟨_, rfl⟩
      rw [hdk] at c0 c1 HHit HMiss
      have i1 : (0 : Int) ≤ (k : Int) := by omega
      have i2 : (k : Int) < (n : Int) := by omega
      have b0 : (w.alloc (.cells #[.string ts, .slice (some ⟨g, off, none⟩) n cap] 72)).cell? ⟨g, off + k * 2, none⟩ = some (.string d.s) := (((Below.refl _ w).alloc (Nat.le_refl _) _).cell (p := ⟨g, off + k * 2, none⟩) hgs).trans c0
      clear hc hdk c0 c1 hgs hf hkd
      by_cases he : d.s.toList = name.toList
      · go_wp2
        go_ret
        exact ⟨ret_int (HHit.out (by simp [eqS, he])).symm, (Below.refl _ w).alloc (Nat.le_refl _) _⟩
      · have heb : (d.s.toList == name.toList) = false := by simpa using he
        go_wp2
        go_round
        case rel => exact ⟨k + 1, by omega, by go_num, HMiss.out (by simp [eqS, he])⟩
        case measure => simp [intOf]; omega
    · obtain rfl : k = n := by omega
      have HX : Hid (R = -1) := by rw [← HF.out, ← HNL.out]; exact fnd_end
      clear hf
      go_wp2
      go_ret
      exact ⟨ret_int HX.out.symm, (Below.refl _ w).alloc (Nat.le_refl _) _⟩
set_option maxHeartbeats 4000000 in
theorem checkField_any (f : Fd) (v : Value) (l : List Fd) (w : World) (hv : FieldsAt w v l) :
    Calls Tryz.prog 98 #[.agg #[.string f.s, .int .i64 f.k], v] w fun e w' => e = .returned (.int .i64 (fck f l)) ∧ Below w.heap.size w w' := by
  obtain ⟨s, k⟩ := f
  obtain ⟨n, hn⟩ : ∃ n, nchk s = n := ⟨_, rfl⟩
  obtain ⟨a, ha⟩ : ∃ a, anyS s l = a := ⟨_, rfl⟩
  obtain ⟨R, hR⟩ : ∃ R, fnd s l 0 = R := ⟨_, rfl⟩
  have HA : Hid (0 ≤ R ↔ a = true) := by rw [← hR, ← ha]; exact fnd_any s l 0
  have HK : Hid (fck ⟨s, k⟩ l = if n ≠ 0 then n else if k ≠ 1 ∧ k ≠ 2 then 3 else if a = true then 7 else 0) := by subst hn ha; exact rfl
  have HV : Hid (FieldsAt w v l) := hv
  have H1 : Hid (∀ W, Calls Tryz.prog 97 #[.string s] W fun e w' => e = .returned (.int .i64 n) ∧ w' = W) := fun W => by rw [← hn]; exact name_any _ _
  have H2 : Hid (∀ W, Below w.heap.size w W → Calls Tryz.prog 136 #[v, .string s] W fun e w' => e = .returned (.int .i64 R) ∧ Below W.heap.size W w') := fun W hb => by rw [← hR]; exact find_any _ _ _ _ (HV.out.below hb)
  clear hn ha hR hv
  by_cases hn0 : n = 0
  · subst hn0
    by_cases hk : k ≠ 1 ∧ k ≠ 2
    · have he : fck ⟨s, k⟩ l = 3 := by rw [HK.out]; simp [hk.1, hk.2]
      have HE : Hid (fck ⟨s, k⟩ l = 3) := he
      clear he
      obtain ⟨k1, k2⟩ := hk
      have kb1 : (k == 1) = false := by simpa using k1
      have kb2 : (k == 2) = false := by simpa using k2
      go_enter Tryz.func98, Tryz.ntmps98
      go_wp2_with (first | (go_at_call 97; refine (H1.out _).mono ?_; rintro e w2 ⟨rfl, rfl⟩) | (go_at_call 135; go_in))
      go_ret
      exact ⟨ret_int HE.out.symm, (Below.refl _ w).alloc (Nat.le_refl _) _⟩
    · have hk' : k = 1 ∨ k = 2 := by omega
      have he : fck ⟨s, k⟩ l = if 0 ≤ R then 7 else 0 := by
        rw [HK.out, if_neg (by simp), if_neg hk]
        by_cases c : 0 ≤ R
        · rw [if_pos c, if_pos (HA.out.1 c)]
        · rw [if_neg c, if_neg (fun h => c (HA.out.2 h))]
      have HE : Hid (fck ⟨s, k⟩ l = if 0 ≤ R then 7 else 0) := he
      clear he hk
      rcases hk' with rfl | rfl
      all_goals
        go_enter Tryz.func98, Tryz.ntmps98
        go_wp2_with (first | (go_at_call 97; refine (H1.out _).mono ?_; rintro e w2 ⟨rfl, rfl⟩) | (go_at_call 135; go_in) | (go_at_call 136; refine (H2.out _ ((Below.refl _ w).alloc (Nat.le_refl _) _)).mono ?_; rintro e w2 ⟨rfl, hb2⟩; have HB2 : Hid (Below w.heap.size w w2) := below_trans ((Below.refl _ w).alloc (Nat.le_refl _) _) hb2 (by simp); clear hb2))
        all_goals
          go_ret
          exact ⟨ret_int (by rw [HE.out]; first | rw [if_pos (by assumption)] | rw [if_neg (by omega)]), HB2.out⟩
  · have he : fck ⟨s, k⟩ l = n := by rw [HK.out]; simp [hn0]
    have HE : Hid (fck ⟨s, k⟩ l = n) := he
    clear he
    have kb1 : (n == 0) = false := by simpa using hn0
    have kb2 : (n != 0) = true := by simpa using hn0
    go_enter Tryz.func98, Tryz.ntmps98
    go_wp2_with (first | (go_at_call 97; refine (H1.out _).mono ?_; rintro e w2 ⟨rfl, rfl⟩))
    go_ret
    exact ⟨ret_int HE.out.symm, (Below.refl _ w).alloc (Nat.le_refl _) _⟩
end Go.Proofs.YthndlfdbmljkhaaGreatDoor.V4
