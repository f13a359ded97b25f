/-
  A rule of raw numbers. A book of raw numbers: its loop.
-/
import Derived.Test.YtnlmknbhppdliaaGreatDoorKi
import Derived.Test.YtnlmknbhppdliaaGreatDoorKj
import Derived.Test.YtnlmknbhppdliaaGreatDoorKl
import Derived.Test.YtnlmknbhppdliaaGreatDoorKm
import Derived.Test.YtnlmknbhppdliaaGreatDoorXo
set_option maxHeartbeats 64000000
namespace Go.Proofs.YtnlmknbhppdliaaGreatDoor.Chk
open Go.ChangeShapes Go.WideShapes Go.ChangeAt Go.RowKit Go.Maps
set_option linter.unusedVariables false
set_option linter.unusedSimpArgs false
set_option maxRecDepth 20000
theorem zI6 (nm : ByteArray) (p : Plt) (hp : p.ok) (a0 a1 a2 a3 : Value) (w : World) (h0 : Rd w (.row 117 5 (p.w.map zBC)) a0) (h1 : Rd w (.row 117 5 (p.t.map zBC)) a1) (h2 : Rd w (.row 117 5 (p.m.map zBC)) a2) (h3 : Rd w (.row 122 6 (p.b.map zDG)) a3) :
   Calls Tryz.prog 18 #[.string nm, .agg #[a0, a1, a2, a3, .int .i64 p.e]] w fun e w' => ∃ cs : List Value, e = .returned (.agg cs.toArray) ∧ KT w' w.heap.size isR (encR (pwR nm p)) cs ∧ Below w.heap.size w w' := by
 obtain ⟨p0, c0, rfl, _, HA0⟩ := zAL lenCs h0
 obtain ⟨p1, c1, rfl, _, HA1⟩ := zAL lenCs h1
 obtain ⟨p2, c2, rfl, _, HA2⟩ := zAL lenCs h2
 obtain ⟨p3, c3, rfl, _, HA3⟩ := zAL lenBd h3
 replace HA0 := hid HA0
 replace HA1 := hid HA1
 replace HA2 := hid HA2
 replace HA3 := hid HA3
 obtain ⟨N, hN⟩ : ∃ N, pwL p.w = N := ⟨_, rfl⟩
 have HNN := hid hN
 have HN3 : Hid (1 ≤ N ∧ N ≤ 3) := by show _ ∧ _; rw [← hN]; exact pwL_in p.w
 have hn0 : ∀ k, k < N → k ≠ 0 → k < p.w.length := fun k h1 h2 => by rw [← hN] at h1; unfold pwL at h1; split at h1 <;> omega
 have hn1 : N < 3 → N ≠ 0 ∧ ¬ N < p.w.length := fun h1 => by rw [← hN] at h1 ⊢; unfold pwL at h1 ⊢; split at h1 <;> rename_i q <;> simp only [q, if_true, if_false] <;> omega
 obtain ⟨L0, hL0⟩ : ∃ L, p.w.length = L := ⟨_, rfl⟩
 obtain ⟨L1, hL1⟩ : ∃ L, p.t.length = L := ⟨_, rfl⟩
 obtain ⟨L2, hL2⟩ : ∃ L, p.m.length = L := ⟨_, rfl⟩
 obtain ⟨L3, hL3⟩ : ∃ L, p.b.length = L := ⟨_, rfl⟩
 have HL0 := hid hL0
 have HL1 := hid hL1
 have HL2 := hid hL2
 have HL3 := hid hL3
 rw [hL0] at hn0 hn1
 have HN0 := hid hn0
 have HN1 := hid hn1
 rw [hL0, hL1, hL2, hL3]
 obtain ⟨M1, hM1⟩ : ∃ M, min L1 2 = M := ⟨_, rfl⟩
 obtain ⟨M2, hM2⟩ : ∃ M, min L2 2 = M := ⟨_, rfl⟩
 have HM1 := hid hM1
 have HM2 := hid hM2
 obtain ⟨MB, hMB⟩ : ∃ M, pwB p = M := ⟨_, rfl⟩
 have HMBB := hid hMB
 have HMB : Hid ((N = 1 → MB = 0) ∧ (N ≠ 1 → MB = min L3 (6 - M1))) := by
   show _ ∧ _
   rw [← hMB, ← hM1, ← hL1, ← hL3]
   unfold pwB
   rw [hN]
   exact ⟨fun h => if_pos h, fun h => if_neg h⟩
 clear hM1 hM2 hMB
 have hB0 := bxs3 w [.slice p0 L0 c0, .slice p1 L1 c1, .slice p2 L2 c2, .slice p3 L3 c3, .int .i64 p.e] [.string ⟨#[]⟩, .slice none 0 0, .slice none 0 0, .slice none 0 0, .slice none 0 0, .string ⟨#[]⟩, .slice none 0 0] [.string ⟨#[]⟩, .slice none 0 0, .slice none 0 0, .slice none 0 0, .slice none 0 0, .string ⟨#[]⟩, .slice none 0 0] 88 56 56
 have HBX := hid hB0
 obtain ⟨ip, ip1, ip2, ip3, ip4⟩ := inP
 obtain ⟨is, is1, is2, is3, is4⟩ := inS
 have HIP := hid (And.intro ip1 (And.intro ip2 (And.intro ip3 ip4)))
 obtain ⟨im, im1, im2, im3, im4⟩ := inM
 obtain ⟨ik, ik1, ik2, ik3, ik4⟩ := inK
 obtain ⟨iq, iq1, iq2, iq3, iq4⟩ := inQ
 have HIM := hid (And.intro im1 (And.intro im2 (And.intro im3 im4)))
 have HIK := hid (And.intro ik1 (And.intro ik2 (And.intro ik3 ik4)))
 have HIQ := hid (And.intro iq1 (And.intro iq2 (And.intro iq3 iq4)))
 have HIS := hid (And.intro is1 (And.intro is2 (And.intro is3 is4)))
 clear h0 h1 h2 h3 hN hn0 hn1 hL0 hL1 hL2 hL3 hB0 ip1 ip2 ip3 ip4 is1 is2 is3 is4 im1 im2 im3 im4 ik1 ik2 ik3 ik4 iq1 iq2 iq3 iq4
 go_enter Tryz.func18, Tryz.ntmps18
 go_wp2_with (first
   | ((with_reducible show wpList _ _ _ (Oper.mk (some 26) _ _ _ _ _ :: _) _ _); refine zBM (by rfl) 56 _ (by rfl) #[(0, .string nm)] (by simp [Act.eval, Act.put]) (.agg #[.string nm, .slice none 0 0, .slice none 0 0, .slice none 0 0, .slice none 0 0, .string ⟨#[]⟩, .slice none 0 0]) (fun w => by kernel_rfl) ?_)
   | ((with_reducible show wpList _ _ _ (Oper.mk _ (.store 56 _ _) _ _ _ _ :: _) _ _); refine zAY 56 (w.heap.size + 2) 0 [.string ⟨#[]⟩, .slice none 0 0, .slice none 0 0, .slice none 0 0, .slice none 0 0, .string ⟨#[]⟩, .slice none 0 0] 56 [.string nm, .slice none 0 0, .slice none 0 0, .slice none 0 0, .slice none 0 0, .string ⟨#[]⟩, .slice none 0 0] (HBX.out.b 2 (by simp)) ?_; intro w1 hq1 hq2; have HR0 : Hid (Ru w w1 [.slice p0 L0 c0, .slice p1 L1 c1, .slice p2 L2 c2, .slice p3 L3 c3, .int .i64 p.e] (⟨nm, [], [], [], [], ⟨txt [], []⟩⟩ : Rl) [] [] (.slice none 0 0) (.slice none 0 0) (.slice none 0 0) (.slice none 0 0) (.slice none 0 0) (.slice none 0 0)) := ⟨zAG HBX.out.bel hq2 (by omega), (hq2.block _ (zAD (HBX.out.b 0 (by simp))) (by show w.heap.size ≠ w.heap.size + 2; omega)).trans (HBX.out.b 0 (by simp)), (hq2.block _ (zAD (HBX.out.b 1 (by simp))) (by show w.heap.size + 1 ≠ w.heap.size + 2; omega)).trans (HBX.out.b 1 (by simp)), hq1, RwT.nil _ _ _ _ _, RwT.nil _ _ _ _ _, RwT.nil _ _ _ _ _, RwT.nil _ _ _ _ _, RwT.nil _ _ _ _ _, RwT.nil _ _ _ _ _, (fun i hi => by simp [Value.ownBlock] at hi), (fun i hi => by simp [Value.ownBlock] at hi)⟩; clear hq1 hq2))
 refine rule_l1 nm p hp p0 c0 p1 c1 p2 c2 p3 c3 w N L0 L1 L2 L3 M1 M2 MB ip is im ik iq HA0 HA1 HA2 HA3 HNN HN3 HL0 HL1 HL2 HL3 HN0 HN1 HM1 HM2 HMBB HMB HIP HIS HIM HIK HIQ _ HR0 _ _ _ _ _ _ _ _ _ _ _ _ _ _ _ _ _ _ _ _ _ _ _ _ _ _ _ _ _ _ _ _ _ _ _ _ _ _ _ _ _ _ _ _ _ _ _ _ _ _ _ _ _ _ _ _ _ _ _ _ _ _ _ _ _ _ _ _ _ _ _ _ _ _ _ _ _ _ _ _ _ _ _ _ _ _ _ _ _ _ _ _ _ _ _ _ _ _ _ _ _ _ _ _ _ _ _ _ _ _ _ _ _ _ _ _ _ _ _ _ _ _ _ _ _ _ _ _ _ _ _ _ _ _ _ _ _ _ _ _ _ _ _ _ _ _ _ _ _ _ _ _ _ _ _ _ _ _ _ _ _ _ _ _ _ _ _ _ _ _ _ _ _ _ _ _ _ _ _ _ _ _ _ _ _ _ _ _ _ _ _ _ _ _ _ _ _ _ _ _ _ _ _ _ _ _ _ _ _ _ _ _ _ _ _ _ _ _ _ _ _ _ _ _ _ _ _ _ _ _ _ _ _ _ _ _ _ _ _ _ _ _ _ _ _ _ _ _ _ _ _ _ _ _ _ _ _ _ _ _ _ _ _ _ _ _ _ _ _ _ _ _ _ _ _ _ _ _ _ _ _ _ _ _ _ _ _ _ _ _ _ _ _ _ _ _ _ _ _ _ _ _ _ _ _ _ _ _ _ _ _ _ _ _ _ _ _ _ ?_
 intro kl wp np ap wcp nc ac wr g9 g10 g11 g27 g28 g29 g30 g31 g32 g33 g34 g35 g36 g37 g38 g39 g40 g41 g42 g43 g44 g45 g46 g47 g48 g49 g50 g51 g52 g53 g54 g55 g56 g57 g58 g59 g60 g61 g62 g63 g64 g65 g66 g67 g68 g69 g70 g71 g72 g73 g74 g75 g76 g77 g78 g79 g80 g81 g82 g83 g84 g85 g86 g87 g88 g89 g90 g91 g92 g93 g94 g95 g96 g97 g98 g99 g100 hkl hR
 have HKL := hid hkl
 have HR := hid hR
 clear hkl hR HR0
 go_wp2_with fail
 refine rule_l2 nm p hp p0 c0 p1 c1 p2 c2 p3 c3 w N L0 L1 L2 L3 M1 M2 MB ip is im ik iq HA0 HA1 HA2 HA3 HNN HN3 HL0 HL1 HL2 HL3 HN0 HN1 HM1 HM2 HMBB HMB HIP HIS HIM HIK HIQ kl wp np ap wcp nc ac HKL _ HR _ _ _ _ _ _ _ _ _ _ _ _ _ _ _ _ _ _ _ _ _ _ _ _ _ _ _ _ _ _ _ _ _ _ _ _ _ _ _ _ _ _ _ _ _ _ _ _ _ _ _ _ _ _ _ _ _ _ _ _ _ _ _ _ _ _ _ _ _ _ _ _ _ _ _ _ _ _ _ _ _ _ _ _ _ _ _ _ _ _ _ _ _ _ _ _ _ _ _ _ _ _ _ _ _ _ _ _ _ _ _ _ _ _ _ _ _ _ _ _ _ _ _ _ _ _ _ _ _ _ _ _ _ _ _ _ _ _ _ _ _ _ _ _ _ _ _ _ _ _ _ _ _ _ _ _ _ _ _ _ _ _ _ _ _ _ _ _ _ _ _ _ _ _ _ _ _ _ _ _ _ _ _ _ _ _ _ _ _ _ _ _ _ _ _ _ _ _ _ _ _ _ _ _ _ _ _ _ _ _ _ _ _ _ _ _ _ _ _ _ _ _ _ _ _ _ _ _ _ _ _ _ _ _ _ _ _ _ _ _ _ _ _ _ _ _ _ _ _ _ _ _ _ _ _ _ _ _ _ _ _ _ _ _ _ _ _ _ _ _ _ _ _ _ _ _ _ _ _ _ _ _ _ _ _ _ _ _ _ _ _ _ _ _ _ _ _ _ _ _ _ _ _ _ _ _ _ _ _ _ _ _ _ _ _ _ _ _ ?_
 clear HR
 intro tp kp tc kc wr g13 g14 g15 g101 g102 g103 g104 g105 g106 g107 g108 g109 g110 g111 g112 g113 g114 g115 g116 g117 g118 g119 g120 g121 g122 g123 g124 g125 g126 g127 g128 g129 g130 g131 g132 g133 g134 g135 g136 g137 g138 g139 g140 g141 g142 g143 g144 g145 g146 g147 g148 g149 g150 g151 g152 g153 g154 g155 hR
 have HR := hid hR
 clear hR
 go_wp2_with fail
 refine rule_l3 nm p hp p0 c0 p1 c1 p2 c2 p3 c3 w N L0 L1 L2 L3 M1 M2 MB ip is im ik iq HA0 HA1 HA2 HA3 HNN HN3 HL0 HL1 HL2 HL3 HN0 HN1 HM1 HM2 HMBB HMB HIP HIS HIM HIK HIQ kl wp np ap wcp nc ac HKL tp kp tc kc _ HR _ _ _ _ _ _ _ _ _ _ _ _ _ _ _ _ _ _ _ _ _ _ _ _ _ _ _ _ _ _ _ _ _ _ _ _ _ _ _ _ _ _ _ _ _ _ _ _ _ _ _ _ _ _ _ _ _ _ _ _ _ _ _ _ _ _ _ _ _ _ _ _ _ _ _ _ _ _ _ _ _ _ _ _ _ _ _ _ _ _ _ _ _ _ _ _ _ _ _ _ _ _ _ _ _ _ _ _ _ _ _ _ _ _ _ _ _ _ _ _ _ _ _ _ _ _ _ _ _ _ _ _ _ _ _ _ _ _ _ _ _ _ _ _ _ _ _ _ _ _ _ _ _ _ _ _ _ _ _ _ _ _ _ _ _ _ _ _ _ _ _ _ _ _ _ _ _ _ _ _ _ _ _ _ _ _ _ _ _ _ _ _ _ _ _ _ _ _ _ _ _ _ _ _ _ _ _ _ _ _ _ _ _ _ _ _ _ _ _ _ _ _ _ _ _ _ _ _ _ _ _ _ _ _ _ _ _ _ _ _ _ _ _ _ _ _ _ _ _ _ _ _ _ _ _ _ _ _ _ _ _ _ _ _ _ _ _ _ _ _ _ _ _ _ _ _ _ _ _ _ _ _ _ _ _ _ _ _ _ _ _ _ _ _ _ _ _ _ _ _ _ _ _ _ _ _ _ _ _ _ _ _ _ _ _ _ _ _ ?_
 clear HR
 intro mp mc wr g17 g18 g19 g156 g157 g158 g159 g160 g161 g162 g163 g164 g165 g166 g167 g168 g169 g170 g171 g172 g173 g174 g175 g176 g177 g178 g179 g180 g181 g182 g183 g184 g185 g186 g187 g188 g189 g190 g191 g192 g193 g194 g195 g196 g197 g198 g199 g200 g201 g202 g203 g204 g205 g206 g207 g208 g209 g210 g211 g212 g213 g214 g215 g216 g217 g218 hR
 have HR := hid hR
 clear hR
 have HR4 : Hid (Ru w wr [.slice p0 L0 c0, .slice p1 L1 c1, .slice p2 L2 c2, .slice p3 L3 c3, .int .i64 p.e] (⟨nm, pwWs p.w N, pwTs p.t (pwK p.w N) M1, pwMs p.m (pwK p.w N) M2, pwUs p.t (alN N) M1 ++ pwBs p.b (alN N) 0, ⟨txt [], []⟩⟩ : Rl) (pwK p.w N) (alN N) (.slice wp N wcp) (.slice tp M1 tc) (.slice mp M2 mc) (.slice kp (M1 + 0) kc) (.slice np kl nc) (.slice ap N ac)) := by show Ru _ _ _ _ _ _ _ _ _ _ _ _; rw [pwBs, List.append_nil]; exact HR.out
 clear HR
 go_wp2_with fail
 refine rule_l4 nm p hp p0 c0 p1 c1 p2 c2 p3 c3 w N L0 L1 L2 L3 M1 M2 MB ip is im ik iq HA0 HA1 HA2 HA3 HNN HN3 HL0 HL1 HL2 HL3 HN0 HN1 HM1 HM2 HMBB HMB HIP HIS HIM HIK HIQ kl wp np ap wcp nc ac HKL tp kp tc kc mp mc _ HR4 _ _ _ _ _ _ _ _ _ _ _ _ _ _ _ _ _ _ _ _ _ _ _ _ _ _ _ _ _ _ _ _ _ _ _ _ _ _ _ _ _ _ _ _ _ _ _ _ _ _ _ _ _ _ _ _ _ _ _ _ _ _ _ _ _ _ _ _ _ _ _ _ _ _ _ _ _ _ _ _ _ _ _ _ _ _ _ _ _ _ _ _ _ _ _ _ _ _ _ _ _ _ _ _ _ _ _ _ _ _ _ _ _ _ _ _ _ _ _ _ _ _ _ _ _ _ _ _ _ _ _ _ _ _ _ _ _ _ _ _ _ _ _ _ _ _ _ _ _ _ _ _ _ _ _ _ _ _ _ _ _ _ _ _ _ _ _ _ _ _ _ _ _ _ _ _ _ _ _ _ _ _ _ _ _ _ _ _ _ _ _ _ _ _ _ _ _ _ _ _ _ _ _ _ _ _ _ _ _ _ _ _ _ _ _ _ _ _ _ _ _ _ _ _ _ _ _ _ _ _ _ _ _ _ _ _ _ _ _ _ _ _ _ _ _ _ _ _ _ _ _ _ _ _ _ _ _ _ _ _ _ _ _ _ _ _ _ _ _ _ _ _ _ _ _ _ _ _ _ _ _ _ _ _ _ _ _ _ _ _ _ _ _ _ _ _ _ _ _ _ _ _ _ _ _ _ _ _ _ _ _ _ _ _ _ _ _ _ ?_
 clear HR4
 intro kp4 kc4 wr g21 g22 g23 g24 g219 g220 g221 g222 g223 g224 g225 g226 g227 g228 g229 g230 g231 g232 g233 g234 g235 g236 g237 g238 g239 g240 g241 g242 g243 g244 g245 g246 g247 g248 g249 g250 g251 g252 g253 g254 g255 g256 g257 g258 g259 g260 g261 g262 g263 g264 g265 g266 g267 g268 g269 g270 g271 g272 g273 g274 g275 g276 g277 g278 g279 g280 g281 g282 g283 g284 g285 g286 g287 g288 g289 g290 g291 g292 g293 hR
 have HR := hid hR
 clear hR
 have qe : wr.cell? ⟨w.heap.size, 4, none⟩ = some (.int .i64 p.e) := by rw [zAB HR.out.pb]; rfl
 have HPE3 := hid (fun W => zAF p.e 3 W hp.e.1 hp.e.2 (by decide) (by decide))
 have HPE9 := hid (fun W => zAF p.e 9 W hp.e.1 hp.e.2 (by decide) (by decide))
 have hqb := zAQ p.e (m := 3) (by decide)
 obtain ⟨q3, hq3⟩ : ∃ x, pkd p.e 3 = x := ⟨_, rfl⟩
 obtain ⟨q9, hq9⟩ : ∃ x, pkd p.e 9 = x := ⟨_, rfl⟩
 rw [hq3] at HPE3 hqb
 rw [hq9] at HPE9
 by_cases h0 : q3 = 0
 . have g1 : decide (0 < q3) = false := by rw [h0]; rfl
   have HEE : Hid (pwE p.e (pwK p.w N) = ⟨txt [], []⟩) := by show _ = _; unfold pwE; rw [hq3, if_pos h0]
   have HF := hid (HR.out.fin ⟨txt [], []⟩ rfl)
   clear h0 hq3 hq9 hqb
   go_upto_if 297 with (go_at_call 9; refine (HPE3.out _).mono ?_; rintro e _ ⟨rfl, rfl⟩)
   have HPR_ : Hid ((⟨nm, pwWs p.w N, pwTs p.t (pwK p.w N) M1, pwMs p.m (pwK p.w N) M2, pwUs p.t (alN N) M1 ++ pwBs p.b (alN N) MB, ⟨txt [], []⟩⟩ : Rl) = pwR nm p) := by show _ = _; unfold pwR; rw [HNN.out, HL1.out, HL2.out, HM1.out, HM2.out, HMBB.out, HEE.out]
   go_upto_region 52 with fail
   go_wp2_with (first
     | ((with_reducible show wpList _ _ _ (Oper.mk (some 322) _ _ _ _ _ :: _) _ _); refine wpList_load_mid (by rfl) 56 _ (by rfl) (w.heap.size + 2) 0 (by rfl) [.string nm, .slice wp N wcp, .slice tp M1 tc, .slice mp M2 mc, .slice kp4 (M1 + MB) kc4, .string ⟨#[]⟩, .slice none 0 0] _ (zAJ HF.out.ub) Tryz.underlying56 rfl (by kernel_rfl) ?_)
     | ((with_reducible show wpList _ _ _ (Oper.mk _ (.store 56 _ _) _ _ _ _ :: _) _ _); refine stp ?_))
   unfold Stp
   refine zAY 56 (w.heap.size + 1) 0 [.string ⟨#[]⟩, .slice none 0 0, .slice none 0 0, .slice none 0 0, .slice none 0 0, .string ⟨#[]⟩, .slice none 0 0] 56 [.string nm, .slice wp N wcp, .slice tp M1 tc, .slice mp M2 mc, .slice kp4 (M1 + MB) kc4, .string ⟨#[]⟩, .slice none 0 0] HF.out.zb ?_
   intro w9 hq1 hq2
   have HBE : Hid (Below w.heap.size w w9) := zAG HF.out.bel hq2 (by omega)
   have HKE := hid (KT.fr (HF.out.kt) hq2 ⟨_, HF.out.zb⟩ (fun h9 => h9.1 rfl))
   refine (‹∀ (a : Act) (w : World), Code.wp Tryz.prog Code.ret _ a w → _› _ _ ?_ : _)
   refine wp_ret ?_
   exact zAR (w.heap.size + 1) [.string nm, .slice wp N wcp, .slice tp M1 tc, .slice mp M2 mc, .slice kp4 (M1 + MB) kc4, .string ⟨#[]⟩, .slice none 0 0] 56 _ hq1 rfl rfl (by rfl) Tryz.underlying56 rfl (by kernel_rfl) ⟨_, rfl, by rw [← HPR_.out]; exact HKE.out, HBE.out⟩
 . have g1 : decide (0 < q3) = true := pos_of q3 hqb.1 h0
   have HH0 := hid h0
   have HQ39 := hid (And.intro hq3 hq9)
   clear h0 hq3 hq9 hqb
   go_upto_if 297 with (go_at_call 9; refine (HPE3.out _).mono ?_; rintro e wr ⟨rfl, rfl⟩)
   go_upto_region 50 with (first
     | (go_at_call 9; refine (HPE9.out _).mono ?_; rintro e wr ⟨rfl, rfl⟩)
     | (go_at_call 20; refine (zAO _ _).mono ?_; rintro e w3 ⟨rfl, hq1⟩; have HR3 := hid (HR.out.below hq1); clear hq1)
     | ((with_reducible show wpList _ _ _ (Oper.mk (some 302) _ _ _ _ _ :: _) _ _); refine wp_bsB (by rfl) 52 1 _ (by rfl) #[(0, opV (numO q9))] (by simp [Act.eval, Act.put]) [.int .i64 1, .int .i64 1, .int .i64 q9, .string ⟨#[]⟩, .string ⟨#[]⟩, .string ⟨#[]⟩] 44 (fun w => by kernel_rfl) ?_; intro be w4 hq1 hq0 hq2; have HBE4 : Hid (w4.heap[be]? = some (.cells #[.int .i64 1, .int .i64 1, .int .i64 q9, .string ⟨#[]⟩, .string ⟨#[]⟩, .string ⟨#[]⟩] 44 (0, 0))) := hq1; have HR4_ := hid (HR3.out.below hq2); have HBN : Hid (w.heap.size ≤ be) := Nat.le_trans HR3.out.bel.size hq0; clear hq1 hq2 hq0)
     | ((with_reducible show wpList _ _ _ (Oper.mk (some 303) _ _ _ _ _ :: _) _ _); refine zBM (by rfl) 54 _ (by rfl) #[(0, .string ⟨#[101]⟩), (1, .slice (some ⟨be, 0, none⟩) 1 1)] (by simp [Act.eval, Act.put]) (.agg #[.string ⟨#[101]⟩, .slice (some ⟨be, 0, none⟩) 1 1]) (fun w => by kernel_rfl) ?_)
     | ((with_reducible show wpList _ _ _ (Oper.mk _ (.store 54 _ _) _ _ _ _ :: _) _ _); refine zAY 54 (w.heap.size + 2) 5 [.string nm, .slice wp N wcp, .slice tp M1 tc, .slice mp M2 mc, .slice kp4 (M1 + MB) kc4, .string ⟨#[]⟩, .slice none 0 0] 56 [.string ⟨#[101]⟩, .slice (some ⟨be, 0, none⟩) 1 1] HR4_.out.ub ?_; intro w5 hq1 hq2; have HF5 : Hid (Fin w w5 (⟨nm, pwWs p.w N, pwTs p.t (pwK p.w N) M1, pwMs p.m (pwK p.w N) M2, pwUs p.t (alN N) M1 ++ pwBs p.b (alN N) MB, ⟨txt [101], [numO q9]⟩⟩ : Rl) (.slice wp N wcp) (.slice tp M1 tc) (.slice mp M2 mc) (.slice kp4 (M1 + MB) kc4) (.slice (some ⟨be, 0, none⟩) 1 1)) := HR4_.out.emit hq2 hq1 HBE4.out HBN.out; have HPB5 : Hid (w5.heap[w.heap.size]? = _) := (hq2.block _ (zAD HR4_.out.pb) (by show w.heap.size ≠ w.heap.size + 2; omega)).trans HR4_.out.pb; have qe5 : w5.cell? ⟨w.heap.size, 4, none⟩ = some (.int .i64 p.e) := (by rw [zAB HPB5.out]; rfl); have HR6 := hid (HR4_.out.r6.set hq2 HR4_.out.tu (by decide) (by decide)); have HBE5_ : Hid (w5.heap[be]? = some (.cells #[.int .i64 1, .int .i64 1, .int .i64 q9, .string ⟨#[]⟩, .string ⟨#[]⟩, .string ⟨#[]⟩] 44 (0, 0))) := (hq2.block be (zAD HBE4.out) (fun h9 => TB.ne ⟨_, HBE4.out⟩ HR4_.out.tu (by decide) h9)).trans HBE4.out; clear hq1 hq2))
   by_cases hk0 : kl = 0
   . have g2 : decide (0 < kl) = false := by rw [hk0]; rfl
     have g3 : decide ((0 : Int) < (kl : Int)) = false := by rw [hk0]; rfl
     have HEE : Hid (pwE p.e (pwK p.w N) = ⟨txt [101], [numO q9]⟩) := by show _ = _; unfold pwE; rw [HQ39.out.1, HQ39.out.2, if_neg HH0.out, if_neg (fun h9 => h9.1 (HKL.out.trans hk0))]
     clear hk0
     have HPR_ : Hid ((⟨nm, pwWs p.w N, pwTs p.t (pwK p.w N) M1, pwMs p.m (pwK p.w N) M2, pwUs p.t (alN N) M1 ++ pwBs p.b (alN N) MB, ⟨txt [101], [numO q9]⟩⟩ : Rl) = pwR nm p) := by show _ = _; unfold pwR; rw [HNN.out, HL1.out, HL2.out, HM1.out, HM2.out, HMBB.out, HEE.out]
     go_upto_region 52 with fail
     go_wp2_with (first
       | ((with_reducible show wpList _ _ _ (Oper.mk (some 322) _ _ _ _ _ :: _) _ _); refine wpList_load_mid (by rfl) 56 _ (by rfl) (w.heap.size + 2) 0 (by rfl) [.string nm, .slice wp N wcp, .slice tp M1 tc, .slice mp M2 mc, .slice kp4 (M1 + MB) kc4, .string ⟨#[101]⟩, .slice (some ⟨be, 0, none⟩) 1 1] _ (zAJ HF5.out.ub) Tryz.underlying56 rfl (by kernel_rfl) ?_)
       | ((with_reducible show wpList _ _ _ (Oper.mk _ (.store 56 _ _) _ _ _ _ :: _) _ _); refine stp ?_))
     unfold Stp
     refine zAY 56 (w.heap.size + 1) 0 [.string ⟨#[]⟩, .slice none 0 0, .slice none 0 0, .slice none 0 0, .slice none 0 0, .string ⟨#[]⟩, .slice none 0 0] 56 [.string nm, .slice wp N wcp, .slice tp M1 tc, .slice mp M2 mc, .slice kp4 (M1 + MB) kc4, .string ⟨#[101]⟩, .slice (some ⟨be, 0, none⟩) 1 1] HF5.out.zb ?_
     intro w9 hq1 hq2
     have HBE : Hid (Below w.heap.size w w9) := zAG HF5.out.bel hq2 (by omega)
     have HKE := hid (KT.fr (HF5.out.kt) hq2 ⟨_, HF5.out.zb⟩ (fun h9 => h9.1 rfl))
     refine (‹∀ (a : Act) (w : World), Code.wp Tryz.prog Code.ret _ a w → _› _ _ ?_ : _)
     refine wp_ret ?_
     exact zAR (w.heap.size + 1) [.string nm, .slice wp N wcp, .slice tp M1 tc, .slice mp M2 mc, .slice kp4 (M1 + MB) kc4, .string ⟨#[101]⟩, .slice (some ⟨be, 0, none⟩) 1 1] 56 _ hq1 rfl rfl (by rfl) Tryz.underlying56 rfl (by kernel_rfl) ⟨_, rfl, by rw [← HPR_.out]; exact HKE.out, HBE.out⟩
   . have g2 : decide (0 < kl) = true := decide_eq_true (Nat.pos_of_ne_zero hk0)
     have g3 : decide ((0 : Int) < (kl : Int)) = true := decide_eq_true (Int.natCast_pos.2 (Nat.pos_of_ne_zero hk0))
     by_cases h2 : q3 = 2
     . have g4 : (q3 == 2) = true := by simpa using h2
       have HKP0 : Hid ((pwK p.w N).length ≠ 0) := fun h9 => hk0 (HKL.out.symm.trans h9)
       obtain ⟨kg, ko, kc9, hav, hnn⟩ := nm_all HR6.out (Nat.pos_of_ne_zero HKP0.out)
       rw [HKL.out] at hav
       obtain ⟨K0, hK0⟩ : ∃ x, (pwK p.w N).getD 0 (txt []) = x := ⟨_, rfl⟩
       have HEE : Hid (pwE p.e (pwK p.w N) = ⟨txt [101], [⟨3, 0, 0, txt [], K0, txt [110]⟩]⟩) := by show _ = _; unfold pwE; rw [HQ39.out.1, if_neg HH0.out, if_pos ⟨HKP0.out, h2⟩, hK0]
       have hk1 := hnn 0 (Nat.pos_of_ne_zero HKP0.out)
       rw [hK0, Nat.add_zero] at hk1
       have HK0 := hid hk1
       simp only [Value.slice.injEq] at hav
       obtain ⟨rfl, _, rfl⟩ := hav
       have HBE5 := HBE5_
       have j1 : (0 : Int) ≤ 0 := Int.le_refl 0
       have j2 : (0 : Int) < (kl : Int) := Int.natCast_pos.2 (Nat.pos_of_ne_zero hk0)
       have j3 : 0 < kl := Nat.pos_of_ne_zero hk0
       clear hk0 h2 hK0 hk1 hnn
       go_upto_region 51 with (go_at_call 9; refine (HPE3.out _).mono ?_; rintro e w5 ⟨rfl, rfl⟩)
       refine zBI (by kernel_rfl) (fun i w9 v => ([(fun w9 v => v = .pointer (some ⟨w.heap.size + 2, 5, none⟩)), (fun w9 v => v = .pointer (some ⟨w.heap.size + 2, 6, none⟩)), (fun w9 v => v = .slice (some ⟨be, 0, none⟩) 1 1), (fun w9 v => v = (.slice (some ⟨kg, ko, none⟩) kl nc)), (fun w9 v => v = .pointer (some ⟨kg, ko, none⟩)), (fun w9 v => v = .string K0), (fun w9 v => v = .agg #[.int .i64 3, .int .i64 0, .int .i64 0, .string ⟨#[]⟩, .string K0, .string ⟨#[110]⟩]), (fun w9 v => v = .pointer (some ⟨be, 0, none⟩))] : List (World → Value → Prop)).getD i (fun _ _ => True) w9 v) (fun W => Below w5.heap.size w5 W) 323 8 rfl rfl [some 314, some 315, some 316, some 317, some 318, some 319, some 320, some 321] (by kernel_rfl) 44 (.tmp 321) (.tmp 320) (by rfl) (by rfl) (by kernel_rfl) (by kernel_rfl) (fun W W' => Below W.heap.size W W') ?hmon (Below.drew (Below.refl _ _)) (zAC.cons ?o0 (zAC.cons ?o1 (zAC.cons ?o2 (zAC.cons ?o3 (zAC.cons ?o4 (zAC.cons ?o5 (zAC.cons ?o6 (zAC.cons ?o7 zAC.nil)))))))) ?hend
       case hmon =>
        intro q W W' v hb h
        rcases q with _ | _ | _ | _ | _ | _ | _ | _ | q
        . exact h
        . exact h
        . exact h
        . exact h
        . exact h
        . exact h
        . exact h
        . exact h
        . exact h
       case o0 =>
        intro a W hB hd ho
        have e5 : a.eval (.tmp 5) = .pointer (some ⟨w.heap.size + 2, 0, none⟩) := ho 5 (by kernel_rfl)
        exact zAK (.pointer (some ⟨w.heap.size + 2, 5, none⟩)) (by unfold execOp; simp only [ev_c, e5]; go_simp) ⟨_, rfl, rfl, hB, Below.refl _ _⟩
       case o1 =>
        intro a W hB hd ho
        have e314 : a.eval (.tmp 314) = .pointer (some ⟨w.heap.size + 2, 5, none⟩) := hd 0 314 (by kernel_rfl)
        exact zAK (.pointer (some ⟨w.heap.size + 2, 6, none⟩)) (by unfold execOp; simp only [ev_c, e314]; go_simp) ⟨_, rfl, rfl, hB, Below.refl _ _⟩
       case o2 =>
        intro a W hB hd ho
        have e315 : a.eval (.tmp 315) = .pointer (some ⟨w.heap.size + 2, 6, none⟩) := hd 1 315 (by kernel_rfl)
        have c9 : W.cell? ⟨w.heap.size + 2, 6, none⟩ = some (.slice (some ⟨be, 0, none⟩) 1 1) := by
          rw [zAB ((hB.block _ (zAD HF5.out.ub)).trans HF5.out.ub)]
          rfl
        exact zAK (.slice (some ⟨be, 0, none⟩) 1 1) (by unfold execOp; simp only [ev_c, e315]; go_simp) ⟨_, rfl, rfl, hB, Below.refl _ _⟩
       case o3 =>
        intro a W hB hd ho
        have e6 : a.eval (.tmp 6) = (.slice (some ⟨kg, ko, none⟩) kl nc) := ho 6 (by kernel_rfl)
        exact zA1 _ (by simp) _ e6 ⟨_, rfl, rfl, hB, Below.refl _ _⟩
       case o4 =>
        intro a W hB hd ho
        have e317 : a.eval (.tmp 317) = (.slice (some ⟨kg, ko, none⟩) kl nc) := hd 3 317 (by kernel_rfl)
        exact zAK (.pointer (some ⟨kg, ko, none⟩)) (by unfold execOp; simp only [ev_c, e317]; go_simp) ⟨_, rfl, rfl, hB, Below.refl _ _⟩
       case o5 =>
        intro a W hB hd ho
        have e318 : a.eval (.tmp 318) = .pointer (some ⟨kg, ko, none⟩) := hd 4 318 (by kernel_rfl)
        have c9 : W.cell? ⟨kg, ko, none⟩ = some (.string K0) := HK0.out W hB
        exact zAK (.string K0) (by unfold execOp; simp only [ev_c, e318]; go_simp) ⟨_, rfl, rfl, hB, Below.refl _ _⟩
       case o6 =>
        intro a W hB hd ho
        have e319 : a.eval (.tmp 319) = .string K0 := hd 5 319 (by kernel_rfl)
        exact zCC 44 _ rfl #[(0, .int .i64 3), (2, .string K0), (3, .string ⟨#[110]⟩)] (by simp [ev_c, e319]) (.agg #[.int .i64 3, .int .i64 0, .int .i64 0, .string ⟨#[]⟩, .string K0, .string ⟨#[110]⟩]) (by kernel_rfl) ⟨_, rfl, rfl, hB, Below.refl _ _⟩
       case o7 =>
        intro a W hB hd ho
        have e316 : a.eval (.tmp 316) = .slice (some ⟨be, 0, none⟩) 1 1 := hd 2 316 (by kernel_rfl)
        exact zAK (.pointer (some ⟨be, 0, none⟩)) (by unfold execOp; simp only [ev_c, e316]; go_simp) ⟨_, rfl, rfl, hB, Below.refl _ _⟩
       case hend =>
        intro vs W hB hT
        have e6 : vs 6 = .agg #[.int .i64 3, .int .i64 0, .int .i64 0, .string ⟨#[]⟩, .string K0, .string ⟨#[110]⟩] := hT 6 (by decide)
        have e7 : vs 7 = .pointer (some ⟨be, 0, none⟩) := hT 7 (by decide)
        have hbe : W.heap[be]? = some (.cells #[.int .i64 1, .int .i64 1, .int .i64 q9, .string ⟨#[]⟩, .string ⟨#[]⟩, .string ⟨#[]⟩] 44 (0, 0)) := (hB.block _ (zAD HBE5.out)).trans HBE5.out
        refine ⟨be, 0, [.int .i64 1, .int .i64 1, .int .i64 q9, .string ⟨#[]⟩, .string ⟨#[]⟩, .string ⟨#[]⟩], 44, .agg #[.int .i64 3, .int .i64 0, .int .i64 0, .string ⟨#[]⟩, .string K0, .string ⟨#[110]⟩], [.int .i64 3, .int .i64 0, .int .i64 0, .string ⟨#[]⟩, .string K0, .string ⟨#[110]⟩], Eq.trans (b := vs 7) (by kernel_rfl) e7, Eq.trans (b := vs 6) (by kernel_rfl) e6, rfl, hbe, by simp, by kernel_rfl, rfl, ?_⟩
        intro w8 hq1 hq2
        have HF6 : Fin w W (⟨nm, pwWs p.w N, pwTs p.t (pwK p.w N) M1, pwMs p.m (pwK p.w N) M2, pwUs p.t (alN N) M1 ++ pwBs p.b (alN N) MB, ⟨txt [101], [numO q9]⟩⟩ : Rl) (.slice wp N wcp) (.slice tp M1 tc) (.slice mp M2 mc) (.slice kp4 (M1 + MB) kc4) (.slice (some ⟨be, 0, none⟩) 1 1) := ⟨zAA HF5.out.bel hB HF5.out.bel.size, (hB.block _ (zAD HF5.out.zb)).trans HF5.out.zb, (hB.block _ (zAD HF5.out.ub)).trans HF5.out.ub, HF5.out.r1.below hB, HF5.out.r2.below hB, HF5.out.r3.below hB, HF5.out.r4.below hB, HF5.out.r5.below hB⟩
        have HF8 : Hid (Fin w w8 (⟨nm, pwWs p.w N, pwTs p.t (pwK p.w N) M1, pwMs p.m (pwK p.w N) M2, pwUs p.t (alN N) M1 ++ pwBs p.b (alN N) MB, ⟨txt [101], [⟨3, 0, 0, txt [], K0, txt [110]⟩]⟩⟩ : Rl) (.slice wp N wcp) (.slice tp M1 tc) (.slice mp M2 mc) (.slice kp4 (M1 + MB) kc4) (.slice (some ⟨be, 0, none⟩) 1 1)) := Fin.val (r := (⟨nm, pwWs p.w N, pwTs p.t (pwK p.w N) M1, pwMs p.m (pwK p.w N) M2, pwUs p.t (alN N) M1 ++ pwBs p.b (alN N) MB, ⟨txt [101], [numO q9]⟩⟩ : Rl)) (o := numO q9) (o' := ⟨3, 0, 0, txt [], K0, txt [110]⟩) HF6 hq2 hq1
        clear hq1 hq2 hbe hB hT HF6
        simp only [zB0, Act.put, List.setIfInBounds_toArray, e6, e7]
        simp only [zBJ]
        simp only [List.set_cons_zero, List.set_cons_succ]
        clear e6 e7
        generalize vs 0 = v0
        generalize vs 1 = v1
        generalize vs 2 = v2
        generalize vs 3 = v3
        generalize vs 4 = v4
        generalize vs 5 = v5
        clear vs
        have HPR_ : Hid ((⟨nm, pwWs p.w N, pwTs p.t (pwK p.w N) M1, pwMs p.m (pwK p.w N) M2, pwUs p.t (alN N) M1 ++ pwBs p.b (alN N) MB, ⟨txt [101], [⟨3, 0, 0, txt [], K0, txt [110]⟩]⟩⟩ : Rl) = pwR nm p) := by show _ = _; unfold pwR; rw [HNN.out, HL1.out, HL2.out, HM1.out, HM2.out, HMBB.out, HEE.out]
        go_upto_region 52 with fail
        go_wp2_with (first
          | ((with_reducible show wpList _ _ _ (Oper.mk (some 322) _ _ _ _ _ :: _) _ _); refine wpList_load_mid (by rfl) 56 _ (by rfl) (w.heap.size + 2) 0 (by rfl) [.string nm, .slice wp N wcp, .slice tp M1 tc, .slice mp M2 mc, .slice kp4 (M1 + MB) kc4, .string ⟨#[101]⟩, .slice (some ⟨be, 0, none⟩) 1 1] _ (zAJ HF8.out.ub) Tryz.underlying56 rfl (by kernel_rfl) ?_)
          | ((with_reducible show wpList _ _ _ (Oper.mk _ (.store 56 _ _) _ _ _ _ :: _) _ _); refine stp ?_))
        unfold Stp
        refine zAY 56 (w.heap.size + 1) 0 [.string ⟨#[]⟩, .slice none 0 0, .slice none 0 0, .slice none 0 0, .slice none 0 0, .string ⟨#[]⟩, .slice none 0 0] 56 [.string nm, .slice wp N wcp, .slice tp M1 tc, .slice mp M2 mc, .slice kp4 (M1 + MB) kc4, .string ⟨#[101]⟩, .slice (some ⟨be, 0, none⟩) 1 1] HF8.out.zb ?_
        intro w9 hq1 hq2
        have HBE : Hid (Below w.heap.size w w9) := zAG HF8.out.bel hq2 (by omega)
        have HKE := hid (KT.fr (HF8.out.kt) hq2 ⟨_, HF8.out.zb⟩ (fun h9 => h9.1 rfl))
        refine (‹∀ (a : Act) (w : World), Code.wp Tryz.prog Code.ret _ a w → _› _ _ ?_ : _)
        refine wp_ret ?_
        exact zAR (w.heap.size + 1) [.string nm, .slice wp N wcp, .slice tp M1 tc, .slice mp M2 mc, .slice kp4 (M1 + MB) kc4, .string ⟨#[101]⟩, .slice (some ⟨be, 0, none⟩) 1 1] 56 _ hq1 rfl rfl (by rfl) Tryz.underlying56 rfl (by kernel_rfl) ⟨_, rfl, by rw [← HPR_.out]; exact HKE.out, HBE.out⟩
     . have g4 : (q3 == 2) = false := by simpa using h2
       have HEE : Hid (pwE p.e (pwK p.w N) = ⟨txt [101], [numO q9]⟩) := by show _ = _; unfold pwE; rw [HQ39.out.1, HQ39.out.2, if_neg HH0.out, if_neg (fun h9 => h2 h9.2)]
       clear hk0 h2
       go_upto_if 313 with (go_at_call 9; refine (HPE3.out _).mono ?_; rintro e w5 ⟨rfl, rfl⟩)
       have HPR_ : Hid ((⟨nm, pwWs p.w N, pwTs p.t (pwK p.w N) M1, pwMs p.m (pwK p.w N) M2, pwUs p.t (alN N) M1 ++ pwBs p.b (alN N) MB, ⟨txt [101], [numO q9]⟩⟩ : Rl) = pwR nm p) := by show _ = _; unfold pwR; rw [HNN.out, HL1.out, HL2.out, HM1.out, HM2.out, HMBB.out, HEE.out]
       go_upto_region 52 with fail
       go_wp2_with (first
        | ((with_reducible show wpList _ _ _ (Oper.mk (some 322) _ _ _ _ _ :: _) _ _); refine wpList_load_mid (by rfl) 56 _ (by rfl) (w.heap.size + 2) 0 (by rfl) [.string nm, .slice wp N wcp, .slice tp M1 tc, .slice mp M2 mc, .slice kp4 (M1 + MB) kc4, .string ⟨#[101]⟩, .slice (some ⟨be, 0, none⟩) 1 1] _ (zAJ HF5.out.ub) Tryz.underlying56 rfl (by kernel_rfl) ?_)
        | ((with_reducible show wpList _ _ _ (Oper.mk _ (.store 56 _ _) _ _ _ _ :: _) _ _); refine stp ?_))
       unfold Stp
       refine zAY 56 (w.heap.size + 1) 0 [.string ⟨#[]⟩, .slice none 0 0, .slice none 0 0, .slice none 0 0, .slice none 0 0, .string ⟨#[]⟩, .slice none 0 0] 56 [.string nm, .slice wp N wcp, .slice tp M1 tc, .slice mp M2 mc, .slice kp4 (M1 + MB) kc4, .string ⟨#[101]⟩, .slice (some ⟨be, 0, none⟩) 1 1] HF5.out.zb ?_
       intro w9 hq1 hq2
       have HBE : Hid (Below w.heap.size w w9) := zAG HF5.out.bel hq2 (by omega)
       have HKE := hid (KT.fr (HF5.out.kt) hq2 ⟨_, HF5.out.zb⟩ (fun h9 => h9.1 rfl))
       refine (‹∀ (a : Act) (w : World), Code.wp Tryz.prog Code.ret _ a w → _› _ _ ?_ : _)
       refine wp_ret ?_
       exact zAR (w.heap.size + 1) [.string nm, .slice wp N wcp, .slice tp M1 tc, .slice mp M2 mc, .slice kp4 (M1 + MB) kc4, .string ⟨#[101]⟩, .slice (some ⟨be, 0, none⟩) 1 1] 56 _ hq1 rfl rfl (by rfl) Tryz.underlying56 rfl (by kernel_rfl) ⟨_, rfl, by rw [← HPR_.out]; exact HKE.out, HBE.out⟩
structure Bo (w0 w : World) (b bb : Nat) (l : List Plt) (k : Nat) (rv : Value) : Prop where
  bel : Below w0.heap.size w0 w
  zb : w.heap[w0.heap.size]? = some (.cells #[.slice none 0 0, .slice none 0 0] 28 (0, 0))
  ty : Tys w b
  tb : w0.heap.size < b
  b1 : b + 4 < bb
  ub : w.heap[bb]? = some (.cells #[.slice (some ⟨b + 4, 0, none⟩) 5 5, rv] 28 (0, 0))
  r : RwT w (b + 5) isR 56 7 rv ((pwRs l k).map encR)
theorem Bo.below {w0 w w' : World} {b bb k : Nat} {l : List Plt} {rv : Value} (h : Bo w0 w b bb l k rv) (hb : Below w.heap.size w w') : Bo w0 w' b bb l k rv :=
  ⟨zAA h.bel hb h.bel.size, (hb.block _ (zAD h.zb)).trans h.zb, h.ty.later (fun i o h1 _ _ => (hb.block _ (zAD h1)).trans h1), h.tb, h.b1, (hb.block _ (zAD h.ub)).trans h.ub, h.r.below hb⟩
theorem Bo.bl {w0 w : World} {b bb k : Nat} {l : List Plt} {rv : Value} (h : Bo w0 w b bb l k rv) : bb < w.heap.size := zAD h.ub
theorem Bo.grown {w0 w w' : World} {b bb k : Nat} {l : List Plt} {rv : Value} (h : Bo w0 w b bb l k rv) (hg : w.grownBy w' rv.ownBlock) : Below w0.heap.size w0 w' ∧ w'.heap[w0.heap.size]? = some (.cells #[.slice none 0 0, .slice none 0 0] 28 (0, 0)) ∧ Tys w' b ∧ w'.heap[bb]? = some (.cells #[.slice (some ⟨b + 4, 0, none⟩) 5 5, rv] 28 (0, 0)) := by
  have hn : ∀ i, rv.ownBlock = some i → TB w 56 i ∧ b + 5 ≤ i := fun i hi => h.r.tb hi
  have ne : ∀ (i : Nat) (cs : Array Value), w.heap[i]? = some (.cells cs 28 (0, 0)) → some i ≠ rv.ownBlock := fun i cs hi e => (hn i e.symm).1.ne ⟨_, hi⟩ (by decide) rfl
  have h1 := h.tb
  refine ⟨h.bel.grown hg h.bel.size (fun i hi => by have := (hn i hi).2; omega), (hg.block _ (zAD h.zb) (ne _ _ h.zb)).trans h.zb, h.ty.later (fun i o hi hb1 hb2 => (hg.block _ (zAD hi) (fun e => by have := (hn i e.symm).2; omega)).trans hi), (hg.block _ (zAD h.ub) (ne _ _ h.ub)).trans h.ub⟩
theorem infR : (Tryz.prog.info? 56).map (fun i => (i.zero, i.size, i.bytes)) = some (some (.agg #[.string ⟨#[]⟩, .slice none 0 0, .slice none 0 0, .slice none 0 0, .slice none 0 0, .string ⟨#[]⟩, .slice none 0 0]), 7, 152) := by kernel_rfl
theorem inR : ∃ i0, Tryz.prog.info? 56 = some i0 ∧ i0.zero = some (.agg #[.string ⟨#[]⟩, .slice none 0 0, .slice none 0 0, .slice none 0 0, .slice none 0 0, .string ⟨#[]⟩, .slice none 0 0]) ∧ i0.size = 7 ∧ i0.bytes = 152 := info_parts infR
theorem ent_rul : ∀ args w, (callFunc 18 args).run Tryz.prog w = .ok (.enter 18 args) w := enters_of Tryz.func18 (by kernel_rfl) rfl
theorem zKG {w : World} {r : Rl} {cs : List Value} (h : RdL w (encR r) cs) : ∃ (p1 : Option Addr) (n1 c1 : Nat) (p2 : Option Addr) (n2 c2 : Nat) (p3 : Option Addr) (n3 c3 : Nat) (p4 : Option Addr) (n4 c4 : Nat) (p5 : Option Addr) (n5 c5 : Nat), cs = [.string r.n, .slice p1 n1 c1, .slice p2 n2 c2, .slice p3 n3 c3, .slice p4 n4 c4, .string r.e.ty, .slice p5 n5 c5] := by
  obtain ⟨v1, v2, v3, v4, v5, rfl, o1, o2, o3, o4, o5⟩ := rdR h
  obtain ⟨a1, a2, a3, rfl⟩ := zAE o1
  obtain ⟨b1, b2, b3, rfl⟩ := zAE o2
  obtain ⟨d1, d2, d3, rfl⟩ := zAE o3
  obtain ⟨f1, f2, f3, rfl⟩ := zAE o4
  obtain ⟨g1, g2, g3, rfl⟩ := zAE o5
  exact ⟨_, _, _, _, _, _, _, _, _, _, _, _, _, _, _, rfl⟩
theorem rdPl {w : World} {p : Plt} {vs : List Value} (h : RdL w (zFU p) vs) : ∃ (p1 : Option Addr) (n1 c1 : Nat) (p2 : Option Addr) (n2 c2 : Nat) (p3 : Option Addr) (n3 c3 : Nat) (p4 : Option Addr) (n4 c4 : Nat), vs = [.slice p1 n1 c1, .slice p2 n2 c2, .slice p3 n3 c3, .slice p4 n4 c4, .int .i64 p.e] ∧ Rd w (.row 117 5 (p.w.map zBC)) (.slice p1 n1 c1) ∧ Rd w (.row 117 5 (p.t.map zBC)) (.slice p2 n2 c2) ∧ Rd w (.row 117 5 (p.m.map zBC)) (.slice p3 n3 c3) ∧ Rd w (.row 122 6 (p.b.map zDG)) (.slice p4 n4 c4) := by
  obtain ⟨v0, r0, rfl, h0, h⟩ := RdL.one h
  obtain ⟨v1, r1, rfl, h1, h⟩ := RdL.one h
  obtain ⟨v2, r2, rfl, h2, h⟩ := RdL.one h
  obtain ⟨v3, r3, rfl, h3, h⟩ := RdL.one h
  obtain ⟨v4, r4, rfl, h4, h⟩ := RdL.one h
  obtain rfl := zAN h4
  obtain rfl : r4 = [] := by simpa using h.1
  obtain ⟨a1, a2, a3, rfl⟩ := zAE h0
  obtain ⟨b1, b2, b3, rfl⟩ := zAE h1
  obtain ⟨d1, d2, d3, rfl⟩ := zAE h2
  obtain ⟨f1, f2, f3, rfl⟩ := zAE h3
  exact ⟨_, _, _, _, _, _, _, _, _, _, _, _, rfl, h0, h1, h2, h3⟩
theorem rnm_at : ∀ k, k < 4 → (#[.string ⟨#[111, 110, 101]⟩, .string ⟨#[116, 119, 111]⟩, .string ⟨#[116, 104, 114, 101, 101]⟩, .string ⟨#[102, 111, 117, 114]⟩] : Array Value)[k]? = some (.string (rnm k)) := by
  intro k hk
  rcases (by omega : k = 0 ∨ k = 1 ∨ k = 2 ∨ k = 3) with rfl | rfl | rfl | rfl <;> rfl
def rz0 : List Value := [.string ⟨#[]⟩, .slice none 0 0, .slice none 0 0, .slice none 0 0, .slice none 0 0, .string ⟨#[]⟩, .slice none 0 0]
theorem bo_step {w0 w w5 w6 : World} {b bb k : Nat} {l : List Plt} {rv : Value} {p' : Option Addr} {c' : Nat} {X : List Dat} (h : Bo w0 w b bb l k rv) (hg : Below w0.heap.size w0 w5 ∧ w5.heap[w0.heap.size]? = some (.cells #[.slice none 0 0, .slice none 0 0] 28 (0, 0)) ∧ Tys w5 b ∧ w5.heap[bb]? = some (.cells #[.slice (some ⟨b + 4, 0, none⟩) 5 5, rv] 28 (0, 0))) (hr : RwT w5 (b + 5) isR 56 7 (.slice p' (k + 1) c') ((pwRs l k).map encR ++ [X])) (he : (pwRs l (k + 1)).map encR = (pwRs l k).map encR ++ [X])
  (hu : w6.heap[bb]? = some (.cells #[.slice (some ⟨b + 4, 0, none⟩) 5 5, .slice p' (k + 1) c'] 28 (0, 0))) (hf : Fr (fun i => i = bb) w5 w6) : Bo w0 w6 b bb l (k + 1) (.slice p' (k + 1) c') := by
 have h1 := h.tb
 have h2 := h.b1
 refine ⟨zAG hg.1 hf (by omega), (hf.block _ (zAD hg.2.1) (by show w0.heap.size ≠ bb; omega)).trans hg.2.1, hg.2.2.1.later (fun i o hi _ hb2 => (hf.block _ (zAD hi) (by show i ≠ bb; omega)).trans hi), h1, h2, hu, ?_⟩
 rw [he]
 exact hr.set hf ⟨_, hg.2.2.2⟩ (by decide) (by decide)
theorem book_l1 (l : List Plt) (hok : ∀ p, p ∈ l → p.ok) (lp : Option Addr) (L lc : Nat) (hL : l.length = L) (hmx : (L : Int) ≤ 9223372036854775807) (w w6 : World) (b bb NN : Nat) (hN : min L 4 = NN) (hat : At zFU 5 w lp l) (h6 : Bo w w6 b bb l 0 (.slice none 0 0))
  {Q : Exit → Act → World → Prop} (f1 f2 f5 f6 f7 f8 f9 f10 f11 f12 f13 f14 f15 f16 f17 f18 f19 f20 f21 f22 f23 f24 f25 f26 f27 f28 f29 f30 f31 f32 f33 f34 f35 f36 f37 f38 f39 f40 f41 f42 f43 f44 : Value)
  (hexit : ∀ (rp : Option Addr) (rc : Nat) (wr : World) (g5 g8 g9 g10 g11 g12 g13 g14 g15 g16 g17 g18 g19 g20 g21 g22 g23 g24 g25 g26 g27 g28 g29 g30 g31 g32 : Value), Bo w wr b bb l NN (.slice rp NN rc) → Q (.exit 0) ⟨List.toArray ((.slice lp L lc) :: f1 :: f2 :: (.pointer (some ⟨bb, 0, none⟩)) :: (.int .i64 (NN : Nat)) :: g5 :: f6 :: f7 :: g8 :: g9 :: g10 :: g11 :: g12 :: g13 :: g14 :: g15 :: g16 :: g17 :: g18 :: g19 :: g20 :: g21 :: g22 :: g23 :: g24 :: g25 :: g26 :: g27 :: g28 :: g29 :: g30 :: g31 :: g32 :: f33 :: f34 :: f35 :: f36 :: f37 :: f38 :: f39 :: f40 :: f41 :: f42 :: f43 :: f44 :: []), []⟩ wr) :
  Code.wp Tryz.prog (lpn Tryz.f8 0) Q ⟨List.toArray ((.slice lp L lc) :: f1 :: f2 :: (.pointer (some ⟨bb, 0, none⟩)) :: (.int .i64 0) :: f5 :: f6 :: f7 :: f8 :: f9 :: f10 :: f11 :: f12 :: f13 :: f14 :: f15 :: f16 :: f17 :: f18 :: f19 :: f20 :: f21 :: f22 :: f23 :: f24 :: f25 :: f26 :: f27 :: f28 :: f29 :: f30 :: f31 :: f32 :: f33 :: f34 :: f35 :: f36 :: f37 :: f38 :: f39 :: f40 :: f41 :: f42 :: f43 :: f44 :: []), []⟩ w6 := by
 have HX := hid hexit
 have HOK := hid hok
 have HAT := hid hat
 have H6 := hid h6
 have HLL := hid hL
 obtain ⟨ir, ir1, ir2, ir3, ir4⟩ := inR
 have HIR := hid (And.intro ir1 (And.intro ir2 (And.intro ir3 ir4)))
 have HNN := hid hN
 clear hexit hok hat h6 hL hN ir1 ir2 ir3 ir4
 conv => arg 2; whnf
 go_loopg [4] (NN + 1) (fun gg s4 wr => ∃ (k : Nat) (rp : Option Addr) (rc : Nat), k ≤ NN ∧ gg = NN + 1 - k ∧ s4 = .int .i64 (k : Nat) ∧ Bo w wr b bb l k (.slice rp k rc))
 case atStart => exact ⟨0, none, 0, by omega, by omega, rfl, H6.out⟩
 case round =>
  obtain ⟨k, rp, rc, hk, rfl, rfl, hR⟩ := hrel
  have HR := hid hR
  clear hR H6
  by_cases hlt : k < NN
  . have hkL : k < L := by have := HNN.out; omega
    have hk4 : k < 4 := by have := HNN.out; omega
    have hkl : k < l.length := by have := HLL.out; omega
    obtain ⟨g, off, rfl, hrd⟩ := HAT.out (by omega)
    obtain ⟨us, r1, o1⟩ := hrd w (Below.refl _ _) k hkl
    obtain ⟨q0, j0, d0, q1, j1, d1, q2, j2, d2, q3, j3, d3, rfl, x0, x1, x2, x3⟩ := rdPl o1
    have HXR := hid (fun W (hW : Below w.heap.size w W) => zAP r1 hW)
    obtain ⟨pl, hpl⟩ : ∃ z, l[k] = z := ⟨_, rfl⟩
    have hpok := HOK.out l[k] (List.getElem_mem hkl)
    rw [hpl] at HXR x0 x1 x2 x3 hpok
    have hgd : l.getD k plt0 = pl := by rw [List.getD_eq_getElem?_getD, List.getElem?_eq_getElem hkl]; exact hpl
    obtain ⟨VN, hVN⟩ : ∃ z, rnm k = z := ⟨_, rfl⟩
    have HVN : Hid ((#[.string ⟨#[111, 110, 101]⟩, .string ⟨#[116, 119, 111]⟩, .string ⟨#[116, 104, 114, 101, 101]⟩, .string ⟨#[102, 111, 117, 114]⟩] : Array Value)[k]? = some (.string VN)) := by show _ = _; rw [← hVN]; exact rnm_at k hk4
    have HEQ : Hid ((pwRs l (k + 1)).map encR = (pwRs l k).map encR ++ [encR (pwR (rnm k) (l.getD k plt0))]) := by show _ = _; rw [pwRs, List.map_append]; rfl
    rw [hgd, hVN] at HEQ
    have HGD := hid (And.intro hgd hVN)
    have HRK := hid (fun W (hB : Below wr.heap.size wr W) => zI6 VN pl hpok _ _ _ _ W (x0.later (zAA HR.out.bel hB HR.out.bel.size)) (x1.later (zAA HR.out.bel hB HR.out.bel.size)) (x2.later (zAA HR.out.bel hB HR.out.bel.size)) (x3.later (zAA HR.out.bel hB HR.out.bel.size)))
    obtain ⟨pe, hpe⟩ : ∃ z, pl.e = z := ⟨_, rfl⟩
    rw [hpe] at HXR HRK
    have HB5 : Hid (b + 5 ≤ wr.heap.size) := by have h1 := HR.out.b1; have h2 := HR.out.bl; show _ ≤ _; omega
    have HLT := hid hlt
    have HLW : Hid (((pwRs l k).map encR).length ≤ 10) := by show _ ≤ 10; rw [List.length_map, zBH]; omega
    have HLW1 : Hid (((pwRs l k).map encR).length + 1 = k + 1) := by show _ + 1 = _; rw [List.length_map, zBH]
    have e1 : decide ((k : Int) < (L : Int)) = true := by simp; omega
    have e2 : decide ((k : Int) < 4) = true := by simp; omega
    have i1 : (0 : Int) ≤ (k : Int) := by omega
    have i2 : (k : Int) < (L : Int) := by omega
    have i3 : (k : Int) < 4 := by omega
    have i4 : k < 4 := hk4
    have i5 : k < L := hkL
    clear hlt hk hkL hk4 hkl hrd r1 o1 x0 x1 x2 x3 hpl hpok hgd hVN hpe
    go_upto_region 5 with fail
    refine zBA (by kernel_rfl) (fun i w9 v => ([(fun w9 v => ∃ (b9 : Nat), v = .slice (some ⟨b9, 0, none⟩) 4 4 ∧ w9.heap[b9]? = some (.cells #[.string ⟨#[111, 110, 101]⟩, .string ⟨#[116, 119, 111]⟩, .string ⟨#[116, 104, 114, 101, 101]⟩, .string ⟨#[102, 111, 117, 114]⟩] 9 (0, 0))), (fun w9 v => v = .int .i64 (k : Nat)), (fun w9 v => ∃ (b9 : Nat), v = .pointer (some ⟨b9, k, none⟩) ∧ w9.heap[b9]? = some (.cells #[.string ⟨#[111, 110, 101]⟩, .string ⟨#[116, 119, 111]⟩, .string ⟨#[116, 104, 114, 101, 101]⟩, .string ⟨#[102, 111, 117, 114]⟩] 9 (0, 0))), (fun w9 v => v = .string VN), (fun w9 v => v = .slice (some ⟨g, off, none⟩) L lc), (fun w9 v => v = .int .i64 (k : Nat)), (fun w9 v => v = .pointer (some ⟨g, off + k * 5, none⟩)), (fun w9 v => v = .agg #[.slice q0 j0 d0, .slice q1 j1 d1, .slice q2 j2 d2, .slice q3 j3 d3, .int .i64 pe]), (fun w9 v => ∃ (cs : List Value), v = .agg cs.toArray ∧ KT w9 (b + 5) isR (encR (pwR VN pl)) cs), (fun w9 v => ∃ (bx : Nat), v = .pointer (some ⟨bx, 0, none⟩) ∧ wr.heap.size ≤ bx ∧ ∃ cs : List Value, cs.length = 7 ∧ w9.heap[bx]? = some (.cells cs.toArray 56 (0, 0))), (fun w9 v => True)] : List (World → Value → Prop)).getD i (fun _ _ => True) w9 v) (fun W => Below wr.heap.size wr W) 10 9 5 _ rfl (by kernel_rfl) (by decide) (by kernel_rfl) (fun w9 v => ∃ (bx : Nat) (cs : List Value), v = .pointer (some ⟨bx, 0, none⟩) ∧ wr.heap.size ≤ bx ∧ w9.heap[bx]? = some (.cells cs.toArray 56 (0, 0)) ∧ KT w9 (b + 5) isR (encR (pwR VN pl)) cs) 45 rfl (by kernel_rfl) (fun W W' => Below W.heap.size W W') (fun W W' => ∃ b2, wr.heap.size ≤ b2 ∧ TB W 56 b2 ∧ Fr (fun i => i = b2) W W' ∧ ∃ cs : List Value, cs.length = 7 ∧ W'.heap[b2]? = some (.cells cs.toArray 56 (0, 0))) ?hmon ?hmonR ?hmonS (Below.drew (Below.refl _ _)) (zAC.cons ?o0 (zAC.cons ?o1 (zAC.cons ?o2 (zAC.cons ?o3 (zAC.cons ?o4 (zAC.cons ?o5 (zAC.cons ?o6 (zAC.cons ?o7 (zAC.cons ?o8 (zAC.cons ?o9 (zAC.cons ?o10 zAC.nil))))))))))) ?hst ?hend
    case hmon =>
      intro q W W' v hb h
      rcases q with _ | _ | _ | _ | _ | _ | _ | _ | _ | _ | _ | q
      . obtain ⟨b9, e, h1⟩ := h; exact ⟨b9, e, (hb.block _ (zAD h1)).trans h1⟩
      . exact h
      . obtain ⟨b9, e, h1⟩ := h; exact ⟨b9, e, (hb.block _ (zAD h1)).trans h1⟩
      . exact h
      . exact h
      . exact h
      . exact h
      . exact h
      . obtain ⟨cs, e, h1⟩ := h; exact ⟨cs, e, h1.below hb⟩
      . obtain ⟨bx, e, h1, cs, h2, h3⟩ := h; exact ⟨bx, e, h1, cs, h2, (hb.block _ (zAD h3)).trans h3⟩
      . exact h
      . exact h
    case hmonR =>
      intro W W' v hb h
      obtain ⟨bx, cs, e, h1, h2, h3⟩ := h
      exact ⟨bx, cs, e, h1, (hb.block _ (zAD h2)).trans h2, h3.below hb⟩
    case hmonS =>
      intro q W W' v hks hb h
      rcases q with _ | _ | _ | _ | _ | _ | _ | _ | _ | _ | _ | q
      . obtain ⟨b9, e, h1⟩ := h; obtain ⟨b2, q1, q2, q3, _⟩ := hb; exact ⟨b9, e, (q3.block _ (zAD h1) (fun c9 => q2.ne ⟨_, h1⟩ (by decide) c9.symm)).trans h1⟩
      . exact h
      . obtain ⟨b9, e, h1⟩ := h; obtain ⟨b2, q1, q2, q3, _⟩ := hb; exact ⟨b9, e, (q3.block _ (zAD h1) (fun c9 => q2.ne ⟨_, h1⟩ (by decide) c9.symm)).trans h1⟩
      . exact h
      . exact h
      . exact h
      . exact h
      . exact h
      . obtain ⟨cs, e, h1⟩ := h; obtain ⟨b2, q1, q2, q3, _⟩ := hb; exact ⟨cs, e, h1.fr q3 q2 (by decide)⟩
      . obtain ⟨bx, e, h1, cs, h2, h3⟩ := h; obtain ⟨b2, q1, q2, q3, cs2, q4, q5⟩ := hb; by_cases hbb : bx = b2; (subst hbb; exact ⟨bx, e, h1, cs2, q4, q5⟩); exact ⟨bx, e, h1, cs, h2, (q3.block _ (zAD h3) hbb).trans h3⟩
      . exact h
      . exact h
    case o0 =>
      intro _ a W hB hd ho
      have hal : Below W.heap.size W (W.alloc (.cells #[.string ⟨#[111, 110, 101]⟩, .string ⟨#[116, 119, 111]⟩, .string ⟨#[116, 104, 114, 101, 101]⟩, .string ⟨#[102, 111, 117, 114]⟩] 9)) := (Below.refl _ _).alloc (Nat.le_refl _) _
      refine zBT 84 4 _ rfl #[(0, .string ⟨#[111, 110, 101]⟩), (1, .string ⟨#[116, 119, 111]⟩), (2, .string ⟨#[116, 104, 114, 101, 101]⟩), (3, .string ⟨#[102, 111, 117, 114]⟩)] (by simp [ev_c]) (.slice (some ⟨W.heap.size, 0, none⟩) 4 4) (W.alloc (.cells #[.string ⟨#[111, 110, 101]⟩, .string ⟨#[116, 119, 111]⟩, .string ⟨#[116, 104, 114, 101, 101]⟩, .string ⟨#[102, 111, 117, 114]⟩] 9)) (by kernel_rfl) ⟨_, rfl, ⟨W.heap.size, rfl, heap_alloc_new _ _⟩, zAA hB hal hB.size, hal⟩
    case o1 =>
      intro _ a W hB hd ho
      have e4 : a.eval (.tmp 4) = .int .i64 (k : Nat) := ho 4 (by kernel_rfl)
      exact zA1 _ (by simp) _ e4 ⟨_, rfl, rfl, hB, Below.refl _ _⟩
    case o2 =>
      intro _ a W hB hd ho
      obtain ⟨b9, e18, h1⟩ : ∃ (b9 : Nat), a.eval (.tmp 18) = .slice (some ⟨b9, 0, none⟩) 4 4 ∧ W.heap[b9]? = some (.cells #[.string ⟨#[111, 110, 101]⟩, .string ⟨#[116, 119, 111]⟩, .string ⟨#[116, 104, 114, 101, 101]⟩, .string ⟨#[102, 111, 117, 114]⟩] 9 (0, 0)) := hd 0 18 (by kernel_rfl)
      have e19 : a.eval (.tmp 19) = .int .i64 (k : Nat) := hd 1 19 (by kernel_rfl)
      exact zAK (.pointer (some ⟨b9, k, none⟩)) (by unfold execOp; simp only [ev_c, e18, e19]; go_simp) ⟨_, rfl, ⟨b9, rfl, h1⟩, hB, Below.refl _ _⟩
    case o3 =>
      intro _ a W hB hd ho
      obtain ⟨b9, e20, h1⟩ : ∃ (b9 : Nat), a.eval (.tmp 20) = .pointer (some ⟨b9, k, none⟩) ∧ W.heap[b9]? = some (.cells #[.string ⟨#[111, 110, 101]⟩, .string ⟨#[116, 119, 111]⟩, .string ⟨#[116, 104, 114, 101, 101]⟩, .string ⟨#[102, 111, 117, 114]⟩] 9 (0, 0)) := hd 2 20 (by kernel_rfl)
      have c9 : W.cell? ⟨b9, k, none⟩ = some (.string VN) := by
        rw [zAB h1]
        exact HVN.out
      exact zAK (.string VN) (by unfold execOp; simp only [ev_c, e20]; go_simp) ⟨_, rfl, rfl, hB, Below.refl _ _⟩
    case o4 =>
      intro _ a W hB hd ho
      have e0 : a.eval (.tmp 0) = .slice (some ⟨g, off, none⟩) L lc := ho 0 (by kernel_rfl)
      exact zA1 _ (by simp) _ e0 ⟨_, rfl, rfl, hB, Below.refl _ _⟩
    case o5 =>
      intro _ a W hB hd ho
      have e4 : a.eval (.tmp 4) = .int .i64 (k : Nat) := ho 4 (by kernel_rfl)
      exact zA1 _ (by simp) _ e4 ⟨_, rfl, rfl, hB, Below.refl _ _⟩
    case o6 =>
      intro _ a W hB hd ho
      have e22 : a.eval (.tmp 22) = .slice (some ⟨g, off, none⟩) L lc := hd 4 22 (by kernel_rfl)
      have e23 : a.eval (.tmp 23) = .int .i64 (k : Nat) := hd 5 23 (by kernel_rfl)
      exact zAK (.pointer (some ⟨g, off + k * 5, none⟩)) (by unfold execOp; simp only [ev_c, e22, e23]; go_simp) ⟨_, rfl, rfl, hB, Below.refl _ _⟩
    case o7 =>
      intro _ a W hB hd ho
      have e24 : a.eval (.tmp 24) = .pointer (some ⟨g, off + k * 5, none⟩) := hd 6 24 (by kernel_rfl)
      exact zBZ 88 _ rfl g (off + k * 5) e24 [.slice q0 j0 d0, .slice q1 j1 d1, .slice q2 j2 d2, .slice q3 j3 d3, .int .i64 pe] _ (HXR.out W (zAA HR.out.bel hB HR.out.bel.size)) Tryz.underlying88 rfl (by kernel_rfl) ⟨_, rfl, rfl, hB, Below.refl _ _⟩
    case o8 =>
      intro _ a W hB hd ho
      have e21 : a.eval (.tmp 21) = .string VN := hd 3 21 (by kernel_rfl)
      have e25 : a.eval (.tmp 25) = .agg #[.slice q0 j0 d0, .slice q1 j1 d1, .slice q2 j2 d2, .slice q3 j3 d3, .int .i64 pe] := hd 7 25 (by kernel_rfl)
      refine zA0 18 ent_rul _ _ rfl #[.string VN, .agg #[.slice q0 j0 d0, .slice q1 j1 d1, .slice q2 j2 d2, .slice q3 j3 d3, .int .i64 pe]] (by simp [e21, e25]) _ (HRK.out W hB) ?_
      rintro e W' ⟨cs, rfl, hkt, hbl⟩
      exact ⟨_, rfl, _, rfl, ⟨cs, rfl, hkt.low (by have := HB5.out; have := hB.size; omega)⟩, zAA hB hbl hB.size, hbl⟩
    case o9 =>
      intro _ a W hB hd ho
      have hal : Below W.heap.size W (W.alloc (.cells rz0.toArray 56)) := (Below.refl _ _).alloc (Nat.le_refl _) _
      exact zFQ 56 rfl (rz0) (by kernel_rfl) ⟨_, rfl, ⟨W.heap.size, rfl, hB.size, _, rfl, heap_alloc_new _ _⟩, zAA hB hal hB.size, hal⟩
    case o10 =>
      intro h9; exact absurd rfl h9
    case hst =>
      intro a W hB hd ho
      obtain ⟨cs, e8, hkt⟩ : ∃ (cs : List Value), a.eval (.tmp 26) = .agg cs.toArray ∧ KT W (b + 5) isR (encR (pwR VN pl)) cs := hd 8 26 (by kernel_rfl)
      obtain ⟨bx, e9, hb1, cs2, hcs, hblk⟩ : ∃ (bx : Nat), a.eval (.tmp 5) = .pointer (some ⟨bx, 0, none⟩) ∧ wr.heap.size ≤ bx ∧ ∃ cs : List Value, cs.length = 7 ∧ W.heap[bx]? = some (.cells cs.toArray 56 (0, 0)) := hd 9 5 (by kernel_rfl)
      obtain ⟨p1, n1, c1, p2, n2, c2, p3, n3, c3, p4, n4, c4, p5, n5, c5, rfl⟩ := zKG hkt.rd
      refine op_st 56 _ _ rfl bx 0 cs2 56 (.agg #[.string (pwR VN pl).n, .slice p1 n1 c1, .slice p2 n2 c2, .slice p3 n3 c3, .slice p4 n4 c4, .string (pwR VN pl).e.ty, .slice p5 n5 c5]) [.string (pwR VN pl).n, .slice p1 n1 c1, .slice p2 n2 c2, .slice p3 n3 c3, .slice p4 n4 c4, .string (pwR VN pl).e.ty, .slice p5 n5 c5] e9 e8 rfl hblk (by rw [hcs]; simp) (by kernel_rfl) (by rfl) ?_
      intro w5 h5 hf5
      have h5' : w5.heap[bx]? = some (.cells #[.string (pwR VN pl).n, .slice p1 n1 c1, .slice p2 n2 c2, .slice p3 n3 c3, .slice p4 n4 c4, .string (pwR VN pl).e.ty, .slice p5 n5 c5] 56 (0, 0)) := by rw [h5, zGC cs2 _ (by rw [hcs]; rfl)]
      exact ⟨undef, rfl, trivial, zAG hB hf5 hb1, ⟨bx, hb1, ⟨_, hblk⟩, hf5, _, rfl, h5'⟩, ⟨bx, _, e9, hb1, h5', hkt.fr hf5 ⟨_, hblk⟩ (by decide)⟩⟩
    case hend =>
      intro vs W hB hT hR
      obtain ⟨bx, cs, ew, hb1, hblk, hkt⟩ := hR
      obtain ⟨p1, n1, c1, p2, n2, c2, p3, n3, c3, p4, n4, c4, p5, n5, c5, rfl⟩ := zKG hkt.rd
      simp only [List.toList_toArray, List.take_succ_cons, List.take_zero, fill, if_true, Act.put, List.setIfInBounds_toArray, List.set_cons_zero, List.set_cons_succ, ew]
      generalize vs 0 = v0
      generalize vs 1 = v1
      generalize vs 2 = v2
      generalize vs 3 = v3
      generalize vs 4 = v4
      generalize vs 5 = v5
      generalize vs 6 = v6
      generalize vs 7 = v7
      generalize vs 8 = v8
      generalize vs 10 = v10
      clear hT ew vs
      obtain ⟨et, het⟩ : ∃ z, (pwR VN pl).e.ty = z := ⟨_, rfl⟩
      have hnm : (pwR VN pl).n = VN := rfl
      rw [het, hnm] at hblk hkt
      have HBK := hid hblk
      have HKT := hid hkt
      have HRB := hid (HR.out.below hB)
      have q1 : W.cell? ⟨bb, 1, none⟩ = some (.slice rp k rc) := by rw [zAB HRB.out.ub]; rfl
      clear hblk hkt hB hb1 het hnm
      go_wp2_with (first
        | ((with_reducible show wpList _ _ _ (Oper.mk (some 29) _ _ _ _ _ :: _) _ _); refine wpList_load_mid (by rfl) 56 _ (by rfl) bx 0 (by rfl) [.string VN, .slice p1 n1 c1, .slice p2 n2 c2, .slice p3 n3 c3, .slice p4 n4 c4, .string et, .slice p5 n5 c5] _ (zAJ HBK.out) Tryz.underlying56 rfl (by kernel_rfl) ?_)
        | ((with_reducible show wpList _ _ _ (Oper.mk (some 30) _ _ _ _ _ :: _) _ _); refine zCQ (by rfl) 26 1 _ (by rfl) #[(0, .agg #[.string VN, .slice p1 n1 c1, .slice p2 n2 c2, .slice p3 n3 c3, .slice p4 n4 c4, .string et, .slice p5 n5 c5])] (by simp [Act.eval, Act.put]) [.string VN, .slice p1 n1 c1, .slice p2 n2 c2, .slice p3 n3 c3, .slice p4 n4 c4, .string et, .slice p5 n5 c5] 56 (fun w => by kernel_rfl) ?_; intro b2 w4 hq1 hq2; have HB2 := hid hq1; have HRD := hid (HRB.out.below hq2); have HKD := hid (HKT.out.below hq2); clear hq1 hq2)
        | ((with_reducible show wpList _ _ _ (Oper.mk (some 31) _ _ _ _ _ :: _) _ _); refine zB1 (by rfl) _ _ 26 (by rfl) (b + 5) isR 56 7 152 ir _ Tryz.underlying26 HIR.out.1 HIR.out.2.1 HIR.out.2.2.1 HIR.out.2.2.2 rfl (by omega) (by decide) (.slice rp k rc) ((pwRs l k).map encR) (by rfl) HRD.out.r (by have := HRD.out.b1; have := HRD.out.bl; omega) b2 [.string VN, .slice p1 n1 c1, .slice p2 n2 c2, .slice p3 n3 c3, .slice p4 n4 c4, .string et, .slice p5 n5 c5] (by rfl) HB2.out (by rfl) (by rfl) (encR (pwR VN pl)) HKD.out (by decide) HLW.out (k + 1) HLW1.out ?_; intro rp5 rc5 w5 hq1 hq2 hq3; have HR5 := hid hq1; have HG5 := hid hq2; have HO5 := hid hq3; have HGG := hid (HRD.out.grown hq2); clear hq1 hq2 hq3)
        | ((with_reducible show wpList _ _ _ (Oper.mk _ (.store 26 _ _) _ _ _ _ :: _) _ _); refine zAT 26 bb 1 [.slice (some ⟨b + 4, 0, none⟩) 5 5, .slice rp k rc] 28 (.slice rp5 (k + 1) rc5) [.slice rp5 (k + 1) rc5] HGG.out.2.2.2 ?_; intro w6 hq1 hq2; have HRE : Hid (Bo w w6 b bb l (k + 1) (.slice rp5 (k + 1) rc5)) := bo_step HRD.out HGG.out HR5.out HEQ.out hq1 hq2; clear hq1 hq2))
      go_roundg (NN + 1 - (k + 1))
      case rel => exact ⟨k + 1, rp5, rc5, HLT.out, rfl, by go_num, HRE.out⟩
      case measure => have := HLT.out; omega
  . obtain rfl : NN = k := by omega
    clear hlt hk
    by_cases h4 : NN < L
    . have e3 : NN = 4 := by have := HNN.out; omega
      have e1 : decide ((NN : Int) < (L : Int)) = true := by simp; omega
      have e1n : decide (NN < L) = true := by simp; omega
      have e2 : decide ((NN : Int) < 4) = false := by simp; omega
      clear h4 e3
      go_wp2_with fail
      exact HX.out rp rc _ _ _ _ _ _ _ _ _ _ _ _ _ _ _ _ _ _ _ _ _ _ _ _ _ _ _ HR.out
    . have e1 : decide ((NN : Int) < (L : Int)) = false := by simp; omega
      have e1n : decide (NN < L) = false := by simp; omega
      clear h4
      go_wp2_with fail
      exact HX.out rp rc _ _ _ _ _ _ _ _ _ _ _ _ _ _ _ _ _ _ _ _ _ _ _ _ _ _ _ HR.out
end Go.Proofs.YtnlmknbhppdliaaGreatDoor.Chk
