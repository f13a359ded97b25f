/-
  Decode, by the program.
-/
import Derived.Test.YtepgkemnpcadiaaWu
namespace Go.Proofs.Ytepgkemnpcadiaa
open Go.ChangeShapes Go.WideShapes Go.ChangeAt Go.RowKit Go.Maps
set_option linter.unusedVariables false
set_option linter.unusedSimpArgs false
set_option maxRecDepth 20000
def zop : Opn := ⟨0, ⟨#[]⟩, 0, 0, [], 0, false⟩
/-- The reader's state at the end. -/
def dcT (l : List UInt8) : Sx := if (opS ⟨l, 0⟩).l = [] then opS ⟨l, 0⟩ else rfx (opS ⟨l, 0⟩) 4
def dcR (l : List UInt8) : Opn × Int :=
  if 20000 < l.length then (zop, 1) else if (dcT l).e ≠ 0 then (zop, (dcT l).e) else if ochk (opV ⟨l, 0⟩) ≠ 0 then (zop, ochk (opV ⟨l, 0⟩)) else (opV ⟨l, 0⟩, 0)
theorem res2 {P : Program} {fn : Func} {p a : Tmp} {ty : TypeId} (h : fn.results = #[.cell p ty, .tmp a]) (tmps : Array Value) (w : World) (g : Nat) (cs : List Value) (d : TypeDesc)
    (hp : tmps.getD p undef = .pointer (some ⟨g, 0, none⟩)) (hc : w.rangeAt g 0 cs) (hu : P.underlying ty = some d) (hd : d.isRow = true) (hi : (P.info? ty).map (·.size) = some cs.length) :
    (results fn tmps).run P w = .ok (.tuple #[.agg cs.toArray, tmps.getD a undef]) w := by
  have hp' : tmps[p]?.getD undef = .pointer (some ⟨g, 0, none⟩) := by simpa using hp
  simp [results, h, hp', asAddr, run_loadVar_mid w g 0 ty cs d hc hu hd hi]
theorem row_range {w : World} {b : Nat} {cs : List Value} {t : TypeId} (h : w.heap[b]? = some (.cells cs.toArray t (0, 0))) : w.rangeAt b 0 cs := by
  intro j v hv
  rw [Nat.zero_add]
  exact row_cell h (by simpa using hv)
theorem ret2O {fn : Func} {R : Ending → World → Prop} {a : Act} {w : World} {b : Nat} {o : Opn} {u : Value} (p q : Tmp) (h : fn.results = #[.cell p 26, .tmp q]) (hp : a.tmps.getD p undef = .pointer (some ⟨b, 0, none⟩)) (hr : w.heap[b]? = some (.cells #[.int .i64 o.k, .string o.s, .int .i64 o.a, .int .i64 o.b, u, .int .i64 o.d, .bool o.c] 26 (0, 0))) (hd : a.defers = []) (hR : R (.returned (.tuple #[opv o u, a.tmps.getD q undef])) w) : bodyPost Try.prog fn R .ret a w :=
  bodyPost_ret (res2 h a.tmps w b [.int .i64 o.k, .string o.s, .int .i64 o.a, .int .i64 o.b, u, .int .i64 o.d, .bool o.c] _ hp (row_range hr) Try.underlying26 rfl sizeO) hd hR
theorem drew_row {X : World} {b : Nat} {o : Option Obj} (h : X.heap[b]? = o) : X.drew.heap[b]? = o := h
set_option maxHeartbeats 16000000 in
theorem decode_any (l : List UInt8) (v : Value) (w : World) (hv : BA w v l) :
    Calls Try.prog 75 #[v] w fun e w' => ∃ u, e = .returned (.tuple #[opv (dcR l).1 u, .int .i64 (dcR l).2]) ∧ VO w' w.heap.size u (dcR l).1.l ∧ Below w.heap.size w w' := by
  obtain ⟨p, cap, rfl, hcap, hmax, hc⟩ := hv
  obtain ⟨n, hn⟩ : ∃ n, l.length = n := ⟨_, rfl⟩
  have HN := hid hn
  by_cases hbig : 20000 < n
  · have hbi : (20000 : Int) < n := by omega
    have HDC : Hid (dcR l = (zop, 1)) := by show (if _ then _ else _) = _; rw [hn, if_pos hbig]
    have R00 := hid (row_new w (.cells #[.int .i64 0, .string ⟨#[]⟩, .int .i64 0, .int .i64 0, (.slice none 0 0), .int .i64 0, .bool false] 26))
    rw [hn]
    have d0 := row_cell (j := 0) R00.out rfl
    clear hc hcap hmax hn
    go_enter Try.func75, Try.ntmps75
    go_wp2
    refine ret2O (b := w.heap.size) (o := zop) (u := (.slice none 0 0)) 2 3 Try.results75 (by rfl) R00.out (by rfl) ⟨(.slice none 0 0), ?_, ?_, ?_⟩
    · rw [HDC.out]; rfl
    · rw [HDC.out]; exact VO.nil _ _
    · exact ((Gb.refl w w.heap.size).alloc _).below (by omega) (Nat.le_refl _)
  · have hbi : ¬ (20000 : Int) < n := by omega
    have HDC0 : Hid (dcR l = if (dcT l).e ≠ 0 then (zop, (dcT l).e) else if ochk (opV ⟨l, 0⟩) ≠ 0 then (zop, ochk (opV ⟨l, 0⟩)) else (opV ⟨l, 0⟩, 0)) := by show (if _ then _ else _) = _; rw [hn, if_neg hbig]
    have HRA : Hid (RA ((w.alloc (.cells #[.int .i64 0, .string ⟨#[]⟩, .int .i64 0, .int .i64 0, (.slice none 0 0), .int .i64 0, .bool false] 26)).alloc (.cells #[.slice p n cap, .int .i64 0] 106)) (w.heap.size + 1) ⟨l, 0⟩) := by
      have hb : Below w.heap.size w ((w.alloc (.cells #[.int .i64 0, .string ⟨#[]⟩, .int .i64 0, .int .i64 0, (.slice none 0 0), .int .i64 0, .bool false] 26)).alloc (.cells #[.slice p n cap, .int .i64 0] 106)) := ((Below.refl _ w).alloc (Nat.le_refl _) _).alloc (by simp) _
      refine ⟨p, cap, ?_, hcap, hmax, fun c0 => ?_⟩
      · have := row_new (w.alloc (.cells #[.int .i64 0, .string ⟨#[]⟩, .int .i64 0, .int .i64 0, (.slice none 0 0), .int .i64 0, .bool false] 26)) (.cells #[.slice p n cap, .int .i64 0] 106)
        simp only [hn] 
        simpa using this
      · obtain ⟨g, off, hp, hx⟩ := hc c0
        refine ⟨g, off, hp, ?_, fun j hj => ?_⟩
        · have := (hx 0 c0).1; omega
        · exact (hb.cell (p := ⟨g, off + j, none⟩) (hx j hj).1).trans (hx j hj).2
    have HOP := hid (operation_any _ _ _ HRA.out)
    have HDT : Hid (dcT l = if (opS ⟨l, 0⟩).l = [] then opS ⟨l, 0⟩ else rfx (opS ⟨l, 0⟩) 4) := rfl
    obtain ⟨o, ho⟩ : ∃ o, opV ⟨l, 0⟩ = o := ⟨_, rfl⟩
    obtain ⟨t, ht⟩ : ∃ t, opS ⟨l, 0⟩ = t := ⟨_, rfl⟩
    obtain ⟨T, hT⟩ : ∃ T, dcT l = T := ⟨_, rfl⟩
    rw [ho, ht] at HOP
    rw [ho, hT] at HDC0
    rw [ht, hT] at HDT
    rw [hn]
    clear hc hcap hmax hn ho ht hT HRA hbig
    go_enter Try.func75, Try.ntmps75
    go_wp2_with fail
    refine HOP.out.mono ?_
    rintro ex w2 ⟨u, rfl, hv, hr, hg⟩
    obtain ⟨pu, nu, cu, hsh⟩ := hv.shape3
    subst hsh
    have HG2 : Hid (Gb w (w.heap.size + 1) w2) := (((Gb.refl w _).alloc _).alloc _).trans hg
    have HLS : Hid (w.heap.size + 1 < w2.heap.size) := hr.lt
    have R02 : Hid (w2.heap[w.heap.size]? = some (.cells #[.int .i64 0, .string ⟨#[]⟩, .int .i64 0, .int .i64 0, (.slice none 0 0), .int .i64 0, .bool false] 26 (0, 0))) := (hg.block w.heap.size (by simp; omega) (by simp)).trans ((Below.heap_alloc _ _ _ (by simp)).trans (row_new w _))
    have HV2 := hid (hv.weak (show w.heap.size + 2 ≤ _ by simp))
    have HR2 := hid hr
    clear hv hr hg HOP
    obtain ⟨k, s, a, b, vs, d, c⟩ := o
    unfold opv
    simp only at HV2 ⊢
    have R03 : Hid ((w2.alloc (.cells #[.int .i64 k, .string s, .int .i64 a, .int .i64 b, (.slice pu nu cu), .int .i64 d, .bool c] 26)).heap[w.heap.size]? = some (.cells #[.int .i64 0, .string ⟨#[]⟩, .int .i64 0, .int .i64 0, (.slice none 0 0), .int .i64 0, .bool false] 26 (0, 0))) := (Below.heap_alloc _ _ _ (by have := HLS.out; omega)).trans R02.out
    have R23 : Hid ((w2.alloc (.cells #[.int .i64 k, .string s, .int .i64 a, .int .i64 b, (.slice pu nu cu), .int .i64 d, .bool c] 26)).heap[w2.heap.size]? = some (.cells #[.int .i64 k, .string s, .int .i64 a, .int .i64 b, (.slice pu nu cu), .int .i64 d, .bool c] 26 (0, 0))) := row_new w2 _
    have HR3 := hid (HR2.out.alloc (.cells #[.int .i64 k, .string s, .int .i64 a, .int .i64 b, (.slice pu nu cu), .int .i64 d, .bool c] 26))
    have HV3 : Hid (VO (w2.alloc (.cells #[.int .i64 k, .string s, .int .i64 a, .int .i64 b, (.slice pu nu cu), .int .i64 d, .bool c] 26)) (w.heap.size + 2) (.slice pu nu cu) vs) := HV2.out.kept (fun k _ hk => Below.heap_alloc _ _ _ hk)
    have HG3 := hid (HG2.out.alloc (.cells #[.int .i64 k, .string s, .int .i64 a, .int .i64 b, (.slice pu nu cu), .int .i64 d, .bool c] 26))
    obtain ⟨pr, cr, h1, _, _, _⟩ := HR3.out.ex
    obtain ⟨l', e'⟩ := t
    simp only at h1
    have c0 := row_cell (j := 0) h1 rfl
    have c1 := row_cell (j := 1) h1 rfl
    clear h1
    have hne1 : w2.heap.size ≠ w.heap.size := by have := HLS.out; omega
    have hne2 : w2.heap.size ≠ w.heap.size + 1 := by have := HLS.out; omega
    have d0 := row_cell (j := 0) R03.out rfl
    have d1 := row_cell (j := 1) R03.out rfl
    have d2 := row_cell (j := 2) R03.out rfl
    have d3 := row_cell (j := 3) R03.out rfl
    have d4 := row_cell (j := 4) R03.out rfl
    have d5 := row_cell (j := 5) R03.out rfl
    have d6 := row_cell (j := 6) R03.out rfl
    have e0 := row_cell (j := 0) R23.out rfl
    have e1 := row_cell (j := 1) R23.out rfl
    have e2 := row_cell (j := 2) R23.out rfl
    have e3 := row_cell (j := 3) R23.out rfl
    have e4 := row_cell (j := 4) R23.out rfl
    have e5 := row_cell (j := 5) R23.out rfl
    have e6 := row_cell (j := 6) R23.out rfl
    have f0 := fun j => row_frozen (j := j) R03.out
    by_cases hl : l' = []
    · subst hl
      have HT : Hid (T = ⟨[], e'⟩) := by rw [HDT.out, if_pos rfl]; rfl
      clear HDT
      simp only [List.length_nil] at c0
      by_cases he : e' = 0
      · subst he
        have HDC1 : Hid (dcR l = if ochk ⟨k, s, a, b, vs, d, c⟩ ≠ 0 then (zop, ochk ⟨k, s, a, b, vs, d, c⟩) else (⟨k, s, a, b, vs, d, c⟩, 0)) := by rw [HDC0.out, HT.out, if_neg (by simp)]; rfl
        have HCK := hid (wchk_any ⟨k, s, a, b, vs, d, c⟩ (.slice pu nu cu) _ HV3.out.va)
        obtain ⟨z, hz⟩ : ∃ z, ochk ⟨k, s, a, b, vs, d, c⟩ = z := ⟨_, rfl⟩
        rw [hz] at HDC1 HCK
        unfold opv at HCK
        simp only at HCK
        clear hz HDC0 HT
        go_wp2_with fail
        refine HCK.out.mono ?_
        rintro ey w5 ⟨rfl, hb5⟩
        have R05 : Hid (w5.heap[w.heap.size]? = some (.cells #[.int .i64 0, .string ⟨#[]⟩, .int .i64 0, .int .i64 0, (.slice none 0 0), .int .i64 0, .bool false] 26 (0, 0))) := (hb5.block _ (row_lt R03.out)).trans R03.out
        have R25 : Hid (w5.heap[w2.heap.size]? = some (.cells #[.int .i64 k, .string s, .int .i64 a, .int .i64 b, (.slice pu nu cu), .int .i64 d, .bool c] 26 (0, 0))) := (hb5.block _ (row_lt R23.out)).trans R23.out
        have HG5 := hid (HG3.out.trans (Gb.of_below hb5))
        have HV5 : Hid (VO w5 (w.heap.size + 2) (.slice pu nu cu) vs) := HV3.out.kept (fun q _ hk => hb5.block q hk)
        clear hb5 c0 c1 HCK
        clear d0 d1 d2 d3 d4 d5 d6 e0 e1 e2 e3 e4 e5 e6 f0
        have d0 := row_cell (j := 0) R05.out rfl
        have d1 := row_cell (j := 1) R05.out rfl
        have d2 := row_cell (j := 2) R05.out rfl
        have d3 := row_cell (j := 3) R05.out rfl
        have d4 := row_cell (j := 4) R05.out rfl
        have d5 := row_cell (j := 5) R05.out rfl
        have d6 := row_cell (j := 6) R05.out rfl
        have e0 := row_cell (j := 0) R25.out rfl
        have e1 := row_cell (j := 1) R25.out rfl
        have e2 := row_cell (j := 2) R25.out rfl
        have e3 := row_cell (j := 3) R25.out rfl
        have e4 := row_cell (j := 4) R25.out rfl
        have e5 := row_cell (j := 5) R25.out rfl
        have e6 := row_cell (j := 6) R25.out rfl
        have f0 := fun j => row_frozen (j := j) R05.out
        by_cases hz0 : z = 0
        · subst hz0
          have HDC : Hid (dcR l = (⟨k, s, a, b, vs, d, c⟩, 0)) := by rw [HDC1.out, if_neg (by simp)]; rfl
          clear HDC1
          go_wp2
          refine ret2O (b := w.heap.size) (o := ⟨k, s, a, b, vs, d, c⟩) (u := (.slice pu nu cu)) 2 3 Try.results75 (by rfl) (set7_row R05.out) (by rfl) ⟨(.slice pu nu cu), ?_, ?_, ?_⟩
          · rw [HDC.out]; rfl
          · rw [HDC.out]; exact (HV5.out.set7 (by omega)).weak (by omega)
          · exact (HG5.out.set7 (Nat.le_refl _)).below (by omega) (Nat.le_refl _)
        · have hzb : (z != 0) = true := by simpa using hz0
          have hzc : (z == 0) = false := by simpa using hz0
          have HDC : Hid (dcR l = (zop, z)) := by rw [HDC1.out, if_pos hz0]; rfl
          clear HDC1
          go_wp2
          refine ret2O (b := w.heap.size) (o := zop) (u := (.slice none 0 0)) 2 3 Try.results75 (by rfl) (set7_row R05.out) (by rfl) ⟨(.slice none 0 0), ?_, ?_, ?_⟩
          · rw [HDC.out]; rfl
          · rw [HDC.out]; exact VO.nil _ _
          · exact (HG5.out.set7 (Nat.le_refl _)).below (by omega) (Nat.le_refl _)
      · have heb : (e' != 0) = true := by simpa using he
        have hec : (e' == 0) = false := by simpa using he
        have HDC : Hid (dcR l = (zop, e')) := by rw [HDC0.out, HT.out, if_pos he]; rfl
        clear HDC0 HT
        go_wp2_with fail
        go_region
        all_goals
          try go_wp2
        all_goals
          refine ret2O (b := w.heap.size) (o := zop) (u := (.slice none 0 0)) 2 3 Try.results75 (by rfl) (drew_row (set7_row R03.out)) (by rfl) ⟨(.slice none 0 0), ?_, ?_, ?_⟩
          · rw [HDC.out]; rfl
          · rw [HDC.out]; exact VO.nil _ _
          · exact ((HG3.out.set7 (Nat.le_refl _)).trans (Gb.of_below (Below.refl _ _).drew)).below (by omega) (Nat.le_refl _)
    · have HT : Hid (T = rfx ⟨l', e'⟩ 4) := by rw [HDT.out, if_neg hl]; rfl
      obtain ⟨nl, hnl⟩ : ∃ nl, l'.length = nl := ⟨_, rfl⟩
      have hnp : 0 < nl := by rw [← hnl]; exact List.length_pos_iff.2 hl
      rw [hnl] at c0
      have hni : (0 : Int) < nl := by omega
      have HRF := hid (refuse_any _ _ 4 _ HR3.out)
      obtain ⟨⟨l4, q4⟩, h4⟩ : ∃ x, rfx ⟨l', e'⟩ 4 = x := ⟨_, rfl⟩
      have he4 : q4 ≠ 0 := by
        have h5 : (rfx ⟨l', e'⟩ 4).e = q4 := by rw [h4]
        unfold rfx at h5
        by_cases q : e' = 0
        · rw [if_pos q] at h5; rw [← h5]; simp
        · rw [if_neg q] at h5; rw [← h5]; exact q
      rw [h4] at HRF HT
      have HDC : Hid (dcR l = (zop, q4)) := by rw [HDC0.out, HT.out, if_pos he4]; rfl
      clear HDC0 HT HDT h4 hl hnl
      go_wp2_with fail
      refine HRF.out.mono ?_
      rintro ey w5 ⟨rfl, hr5, hg5⟩
      have R05 : Hid (w5.heap[w.heap.size]? = some (.cells #[.int .i64 0, .string ⟨#[]⟩, .int .i64 0, .int .i64 0, (.slice none 0 0), .int .i64 0, .bool false] 26 (0, 0))) := (hg5.block _ (row_lt R03.out) (by simp)).trans R03.out
      have HG5 := hid (HG3.out.trans hg5)
      obtain ⟨pr, cr, h1, _, _, _⟩ := hr5.ex
      simp only at h1
      clear c0 c1 hr5 hg5
      clear d0 d1 d2 d3 d4 d5 d6 e0 e1 e2 e3 e4 e5 e6 f0
      have c1 := row_cell (j := 1) h1 rfl
      have d0 := row_cell (j := 0) R05.out rfl
      have d1 := row_cell (j := 1) R05.out rfl
      have d2 := row_cell (j := 2) R05.out rfl
      have d3 := row_cell (j := 3) R05.out rfl
      have d4 := row_cell (j := 4) R05.out rfl
      have d5 := row_cell (j := 5) R05.out rfl
      have d6 := row_cell (j := 6) R05.out rfl
      have f0 := fun j => row_frozen (j := j) R05.out
      clear h1
      have heb : (q4 != 0) = true := by simpa using he4
      have hec : (q4 == 0) = false := by simpa using he4
      go_wp2_with fail
      go_region
      all_goals
        try go_wp2
      all_goals
        refine ret2O (b := w.heap.size) (o := zop) (u := (.slice none 0 0)) 2 3 Try.results75 (by rfl) (drew_row (set7_row R05.out)) (by rfl) ⟨(.slice none 0 0), ?_, ?_, ?_⟩
        · rw [HDC.out]; rfl
        · rw [HDC.out]; exact VO.nil _ _
        · exact ((HG5.out.set7 (Nat.le_refl _)).trans (Gb.of_below (Below.refl _ _).drew)).below (by omega) (Nat.le_refl _)
end Go.Proofs.Ytepgkemnpcadiaa
