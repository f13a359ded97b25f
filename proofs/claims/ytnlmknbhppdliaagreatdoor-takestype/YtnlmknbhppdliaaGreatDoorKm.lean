/-
  A rule of raw numbers: a loop.
-/
import Derived.Test.YtnlmknbhppdliaaGreatDoorKe
set_option maxHeartbeats 64000000
namespace Go.Proofs.YtnlmknbhppdliaaGreatDoor.Chk
open Go.ChangeShapes Go.WideShapes Go.ChangeAt Go.RowKit Go.Maps
set_option linter.unusedVariables false
set_option linter.unusedSimpArgs false
set_option maxRecDepth 20000
theorem rule_l4 (nm : ByteArray) (p : Plt) (hp : p.ok) (p0 : Option Addr) (c0 : Nat) (p1 : Option Addr) (c1 : Nat) (p2 : Option Addr) (c2 : Nat) (p3 : Option Addr) (c3 : Nat) (w : World) (N L0 L1 L2 L3 M1 M2 MB : Nat) (ip is im ik iq : TypeInfo)
  (HA0 : Hid (At zBC 5 w p0 p.w)) (HA1 : Hid (At zBC 5 w p1 p.t)) (HA2 : Hid (At zBC 5 w p2 p.m)) (HA3 : Hid (At zDG 6 w p3 p.b))
  (HNN : Hid (pwL p.w = N)) (HN3 : Hid (1 ≤ N ∧ N ≤ 3)) (HL0 : Hid (p.w.length = L0)) (HL1 : Hid (p.t.length = L1)) (HL2 : Hid (p.m.length = L2)) (HL3 : Hid (p.b.length = L3)) (HN0 : Hid (∀ k, k < N → k ≠ 0 → k < L0)) (HN1 : Hid (N < 3 → N ≠ 0 ∧ ¬ N < L0)) (HM1 : Hid (min L1 2 = M1)) (HM2 : Hid (min L2 2 = M2)) (HMBB : Hid (pwB p = MB)) (HMB : Hid ((N = 1 → MB = 0) ∧ (N ≠ 1 → MB = min L3 (6 - M1))))
  (HIP : Hid (Tryz.prog.info? 48 = some ip ∧ ip.zero = some zP ∧ ip.size = 18 ∧ ip.bytes = 224)) (HIS : Hid (Tryz.prog.info? 9 = some is ∧ is.zero = some (.string ByteArray.empty) ∧ is.size = 1 ∧ is.bytes = 16)) (HIM : Hid (Tryz.prog.info? 78 = some im ∧ im.zero = some zM ∧ im.size = 20 ∧ im.bytes = 248)) (HIK : Hid (Tryz.prog.info? 66 = some ik ∧ ik.zero = some (.agg #[.string ByteArray.empty, .slice none 0 0, .string ByteArray.empty]) ∧ ik.size = 3 ∧ ik.bytes = 56)) (HIQ : Hid (Tryz.prog.info? 63 = some iq ∧ iq.zero = some (.agg #[.int .i64 0, .int .i64 0, .int .i64 0]) ∧ iq.size = 3 ∧ iq.bytes = 24))
  (kl : Nat) (wp np ap : Option Addr) (wcp nc ac : Nat) (HKL : Hid ((pwK p.w N).length = kl))
  (tp kp : Option Addr) (tc kc : Nat)
  (mp : Option Addr) (mc : Nat)
  (w6 : World) (HR0 : Hid (Ru w w6 [.slice p0 L0 c0, .slice p1 L1 c1, .slice p2 L2 c2, .slice p3 L3 c3, .int .i64 p.e] (⟨nm, pwWs p.w N, pwTs p.t (pwK p.w N) M1, pwMs p.m (pwK p.w N) M2, pwUs p.t (alN N) M1 ++ pwBs p.b (alN N) 0, ⟨txt [], []⟩⟩ : Rl) (pwK p.w N) (alN N) (.slice wp N wcp) (.slice tp M1 tc) (.slice mp M2 mc) (.slice kp (M1 + 0) kc) (.slice np kl nc) (.slice ap N ac)))
  {Q : Exit → Act → World → Prop} (f0 f1 f2 f4 f8 f9 f10 f11 f12 f13 f14 f15 f16 f17 f18 f19 f21 f22 f23 f24 f25 f26 f27 f28 f29 f30 f31 f32 f33 f34 f35 f36 f37 f38 f39 f40 f41 f42 f43 f44 f45 f46 f47 f48 f49 f50 f51 f52 f53 f54 f55 f56 f57 f58 f59 f60 f61 f62 f63 f64 f65 f66 f67 f68 f69 f70 f71 f72 f73 f74 f75 f76 f77 f78 f79 f80 f81 f82 f83 f84 f85 f86 f87 f88 f89 f90 f91 f92 f93 f94 f95 f96 f97 f98 f99 f100 f101 f102 f103 f104 f105 f106 f107 f108 f109 f110 f111 f112 f113 f114 f115 f116 f117 f118 f119 f120 f121 f122 f123 f124 f125 f126 f127 f128 f129 f130 f131 f132 f133 f134 f135 f136 f137 f138 f139 f140 f141 f142 f143 f144 f145 f146 f147 f148 f149 f150 f151 f152 f153 f154 f155 f156 f157 f158 f159 f160 f161 f162 f163 f164 f165 f166 f167 f168 f169 f170 f171 f172 f173 f174 f175 f176 f177 f178 f179 f180 f181 f182 f183 f184 f185 f186 f187 f188 f189 f190 f191 f192 f193 f194 f195 f196 f197 f198 f199 f200 f201 f202 f203 f204 f205 f206 f207 f208 f209 f210 f211 f212 f213 f214 f215 f216 f217 f218 f219 f220 f221 f222 f223 f224 f225 f226 f227 f228 f229 f230 f231 f232 f233 f234 f235 f236 f237 f238 f239 f240 f241 f242 f243 f244 f245 f246 f247 f248 f249 f250 f251 f252 f253 f254 f255 f256 f257 f258 f259 f260 f261 f262 f263 f264 f265 f266 f267 f268 f269 f270 f271 f272 f273 f274 f275 f276 f277 f278 f279 f280 f281 f282 f283 f284 f285 f286 f287 f288 f289 f290 f291 f292 f293 f294 f295 f296 f297 f298 f299 f300 f301 f302 f303 f304 f305 f306 f307 f308 f309 f310 f311 f312 f313 f314 f315 f316 f317 f318 f319 f320 f321 f322 : Value)
  (hexit : ∀ (kp4 : Option Addr) (kc4 : Nat) (wr : World) (g21 g22 g23 g24 g219 g220 g221 g222 g223 g224 g225 g226 g227 g228 g229 g230 g231 g232 g233 g234 g235 g236 g237 g238 g239 g240 g241 g242 g243 g244 g245 g246 g247 g248 g249 g250 g251 g252 g253 g254 g255 g256 g257 g258 g259 g260 g261 g262 g263 g264 g265 g266 g267 g268 g269 g270 g271 g272 g273 g274 g275 g276 g277 g278 g279 g280 g281 g282 g283 g284 g285 g286 g287 g288 g289 g290 g291 g292 g293 : Value), Ru w wr [.slice p0 L0 c0, .slice p1 L1 c1, .slice p2 L2 c2, .slice p3 L3 c3, .int .i64 p.e] (⟨nm, pwWs p.w N, pwTs p.t (pwK p.w N) M1, pwMs p.m (pwK p.w N) M2, pwUs p.t (alN N) M1 ++ pwBs p.b (alN N) MB, ⟨txt [], []⟩⟩ : Rl) (pwK p.w N) (alN N) (.slice wp N wcp) (.slice tp M1 tc) (.slice mp M2 mc) (.slice kp4 (M1 + MB) kc4) (.slice np kl nc) (.slice ap N ac) → Q (.exit 7) ⟨List.toArray (f0 :: f1 :: f2 :: (.pointer (some ⟨w.heap.size, 0, none⟩)) :: f4 :: (.pointer (some ⟨w.heap.size + 2, 0, none⟩)) :: (.slice np kl nc) :: (.slice ap N ac) :: f8 :: f9 :: f10 :: f11 :: f12 :: f13 :: f14 :: f15 :: f16 :: f17 :: f18 :: f19 :: (.int .i64 (MB : Nat)) :: g21 :: g22 :: g23 :: g24 :: f25 :: f26 :: f27 :: f28 :: f29 :: f30 :: f31 :: f32 :: f33 :: f34 :: f35 :: f36 :: f37 :: f38 :: f39 :: f40 :: f41 :: f42 :: f43 :: f44 :: f45 :: f46 :: f47 :: f48 :: f49 :: f50 :: f51 :: f52 :: f53 :: f54 :: f55 :: f56 :: f57 :: f58 :: f59 :: f60 :: f61 :: f62 :: f63 :: f64 :: f65 :: f66 :: f67 :: f68 :: f69 :: f70 :: f71 :: f72 :: f73 :: f74 :: f75 :: f76 :: f77 :: f78 :: f79 :: f80 :: f81 :: f82 :: f83 :: f84 :: f85 :: f86 :: f87 :: f88 :: f89 :: f90 :: f91 :: f92 :: f93 :: f94 :: f95 :: f96 :: f97 :: f98 :: f99 :: f100 :: f101 :: f102 :: f103 :: f104 :: f105 :: f106 :: f107 :: f108 :: f109 :: f110 :: f111 :: f112 :: f113 :: f114 :: f115 :: f116 :: f117 :: f118 :: f119 :: f120 :: f121 :: f122 :: f123 :: f124 :: f125 :: f126 :: f127 :: f128 :: f129 :: f130 :: f131 :: f132 :: f133 :: f134 :: f135 :: f136 :: f137 :: f138 :: f139 :: f140 :: f141 :: f142 :: f143 :: f144 :: f145 :: f146 :: f147 :: f148 :: f149 :: f150 :: f151 :: f152 :: f153 :: f154 :: f155 :: f156 :: f157 :: f158 :: f159 :: f160 :: f161 :: f162 :: f163 :: f164 :: f165 :: f166 :: f167 :: f168 :: f169 :: f170 :: f171 :: f172 :: f173 :: f174 :: f175 :: f176 :: f177 :: f178 :: f179 :: f180 :: f181 :: f182 :: f183 :: f184 :: f185 :: f186 :: f187 :: f188 :: f189 :: f190 :: f191 :: f192 :: f193 :: f194 :: f195 :: f196 :: f197 :: f198 :: f199 :: f200 :: f201 :: f202 :: f203 :: f204 :: f205 :: f206 :: f207 :: f208 :: f209 :: f210 :: f211 :: f212 :: f213 :: f214 :: f215 :: f216 :: f217 :: f218 :: g219 :: g220 :: g221 :: g222 :: g223 :: g224 :: g225 :: g226 :: g227 :: g228 :: g229 :: g230 :: g231 :: g232 :: g233 :: g234 :: g235 :: g236 :: g237 :: g238 :: g239 :: g240 :: g241 :: g242 :: g243 :: g244 :: g245 :: g246 :: g247 :: g248 :: g249 :: g250 :: g251 :: g252 :: g253 :: g254 :: g255 :: g256 :: g257 :: g258 :: g259 :: g260 :: g261 :: g262 :: g263 :: g264 :: g265 :: g266 :: g267 :: g268 :: g269 :: g270 :: g271 :: g272 :: g273 :: g274 :: g275 :: g276 :: g277 :: g278 :: g279 :: g280 :: g281 :: g282 :: g283 :: g284 :: g285 :: g286 :: g287 :: g288 :: g289 :: g290 :: g291 :: g292 :: g293 :: f294 :: f295 :: f296 :: f297 :: f298 :: f299 :: f300 :: f301 :: f302 :: f303 :: f304 :: f305 :: f306 :: f307 :: f308 :: f309 :: f310 :: f311 :: f312 :: f313 :: f314 :: f315 :: f316 :: f317 :: f318 :: f319 :: f320 :: f321 :: f322 :: []), []⟩ wr) :
  Code.wp Tryz.prog (lpn Tryz.f18 3) Q ⟨List.toArray (f0 :: f1 :: f2 :: (.pointer (some ⟨w.heap.size, 0, none⟩)) :: f4 :: (.pointer (some ⟨w.heap.size + 2, 0, none⟩)) :: (.slice np kl nc) :: (.slice ap N ac) :: f8 :: f9 :: f10 :: f11 :: f12 :: f13 :: f14 :: f15 :: f16 :: f17 :: f18 :: f19 :: (.int .i64 0) :: f21 :: f22 :: f23 :: f24 :: f25 :: f26 :: f27 :: f28 :: f29 :: f30 :: f31 :: f32 :: f33 :: f34 :: f35 :: f36 :: f37 :: f38 :: f39 :: f40 :: f41 :: f42 :: f43 :: f44 :: f45 :: f46 :: f47 :: f48 :: f49 :: f50 :: f51 :: f52 :: f53 :: f54 :: f55 :: f56 :: f57 :: f58 :: f59 :: f60 :: f61 :: f62 :: f63 :: f64 :: f65 :: f66 :: f67 :: f68 :: f69 :: f70 :: f71 :: f72 :: f73 :: f74 :: f75 :: f76 :: f77 :: f78 :: f79 :: f80 :: f81 :: f82 :: f83 :: f84 :: f85 :: f86 :: f87 :: f88 :: f89 :: f90 :: f91 :: f92 :: f93 :: f94 :: f95 :: f96 :: f97 :: f98 :: f99 :: f100 :: f101 :: f102 :: f103 :: f104 :: f105 :: f106 :: f107 :: f108 :: f109 :: f110 :: f111 :: f112 :: f113 :: f114 :: f115 :: f116 :: f117 :: f118 :: f119 :: f120 :: f121 :: f122 :: f123 :: f124 :: f125 :: f126 :: f127 :: f128 :: f129 :: f130 :: f131 :: f132 :: f133 :: f134 :: f135 :: f136 :: f137 :: f138 :: f139 :: f140 :: f141 :: f142 :: f143 :: f144 :: f145 :: f146 :: f147 :: f148 :: f149 :: f150 :: f151 :: f152 :: f153 :: f154 :: f155 :: f156 :: f157 :: f158 :: f159 :: f160 :: f161 :: f162 :: f163 :: f164 :: f165 :: f166 :: f167 :: f168 :: f169 :: f170 :: f171 :: f172 :: f173 :: f174 :: f175 :: f176 :: f177 :: f178 :: f179 :: f180 :: f181 :: f182 :: f183 :: f184 :: f185 :: f186 :: f187 :: f188 :: f189 :: f190 :: f191 :: f192 :: f193 :: f194 :: f195 :: f196 :: f197 :: f198 :: f199 :: f200 :: f201 :: f202 :: f203 :: f204 :: f205 :: f206 :: f207 :: f208 :: f209 :: f210 :: f211 :: f212 :: f213 :: f214 :: f215 :: f216 :: f217 :: f218 :: f219 :: f220 :: f221 :: f222 :: f223 :: f224 :: f225 :: f226 :: f227 :: f228 :: f229 :: f230 :: f231 :: f232 :: f233 :: f234 :: f235 :: f236 :: f237 :: f238 :: f239 :: f240 :: f241 :: f242 :: f243 :: f244 :: f245 :: f246 :: f247 :: f248 :: f249 :: f250 :: f251 :: f252 :: f253 :: f254 :: f255 :: f256 :: f257 :: f258 :: f259 :: f260 :: f261 :: f262 :: f263 :: f264 :: f265 :: f266 :: f267 :: f268 :: f269 :: f270 :: f271 :: f272 :: f273 :: f274 :: f275 :: f276 :: f277 :: f278 :: f279 :: f280 :: f281 :: f282 :: f283 :: f284 :: f285 :: f286 :: f287 :: f288 :: f289 :: f290 :: f291 :: f292 :: f293 :: f294 :: f295 :: f296 :: f297 :: f298 :: f299 :: f300 :: f301 :: f302 :: f303 :: f304 :: f305 :: f306 :: f307 :: f308 :: f309 :: f310 :: f311 :: f312 :: f313 :: f314 :: f315 :: f316 :: f317 :: f318 :: f319 :: f320 :: f321 :: f322 :: []), []⟩ w6 := by
 have HX := hid hexit
 clear hexit
 conv => arg 2; whnf
 go_loopg [20] (MB + 1) (fun gg s20 wr => ∃ (m : Nat) (kp4 : Option Addr) (kc4 : Nat), m ≤ MB ∧ gg = MB + 1 - m ∧ s20 = .int .i64 (m : Nat) ∧ Ru w wr [.slice p0 L0 c0, .slice p1 L1 c1, .slice p2 L2 c2, .slice p3 L3 c3, .int .i64 p.e] (⟨nm, pwWs p.w N, pwTs p.t (pwK p.w N) M1, pwMs p.m (pwK p.w N) M2, pwUs p.t (alN N) M1 ++ pwBs p.b (alN N) m, ⟨txt [], []⟩⟩ : Rl) (pwK p.w N) (alN N) (.slice wp N wcp) (.slice tp M1 tc) (.slice mp M2 mc) (.slice kp4 (M1 + m) kc4) (.slice np kl nc) (.slice ap N ac))
 case atStart => exact ⟨0, kp, kc, by omega, by omega, rfl, HR0.out⟩
 case round =>
  clear HR0
  obtain ⟨m, kp4, kc4, hm, rfl, rfl, hR⟩ := hrel
  have HR := hid hR
  clear hR
  by_cases hlt : m < MB
  . have HLT := hid hlt
    have hN1 : N ≠ 1 := fun h9 => by have := HMB.out.1 h9; omega
    have hmb := HMB.out.2 hN1
    have hmL : m < L3 := by omega
    have hm6 : M1 + m < 6 := by omega
    have hN2 : 2 ≤ N := by have := HN3.out.1; omega
    obtain ⟨bo, hcc⟩ : ∃ c, p.b.getD m bd0 = c := ⟨_, rfl⟩
    have hbok : bo.ok := by rw [← hcc]; exact ok_getB hp.b m
    have HML : Hid (M1 + m < 6) := hm6
    go_upto_region 39 with fail
    go_cut [234] from 219 to 293 (fun s wx => s = .bool true ∧ wr = wx)
    case first =>
     have q1 : wr.cell? ⟨w.heap.size, 3, none⟩ = some (.slice p3 L3 c3) := by rw [zAB HR.out.pb]; rfl
     have q2 : wr.cell? ⟨w.heap.size + 2, 4, none⟩ = some (.slice kp4 (M1 + m) kc4) := by rw [zAB HR.out.ub]; rfl
     have e1 : decide (m < L3) = true := by simpa using hmL
     have e2 : decide ((M1 + m : Nat) < (6 : Int)) = true := by simp; omega
     have e2b : decide ((M1 : Int) + (m : Int) < 6) = true := by simp; omega
     have e3 : decide ((1 : Int) < (N : Int)) = true := by simp; omega
     clear hlt hmL hm6 hN1 hN2 hmb
     go_wp2_with fail
     go_meet
     exact ⟨rfl, rfl⟩
    case rest =>
     obtain ⟨rfl, rfl⟩ := hcut
     have hx := bd_at HA3.out (k := m) (by have := HL3.out; omega)
     rw [hcc] at hx
     obtain ⟨g, off, hp1, hx⟩ := hx
     subst hp1
     have XBD := hid (hx wr HR.out.bel)
     have q1 : wr.cell? ⟨w.heap.size, 3, none⟩ = some (.slice (some ⟨g, off, none⟩) L3 c3) := by rw [zAB HR.out.pb]; rfl
     obtain ⟨ll, hll⟩ : ∃ q : Nat, pkd bo.l (N : Int) = (q : Int) := ⟨(pkd bo.l (N : Int)).toNat, by have := zAQ bo.l (m := (N : Int)) (by omega); omega⟩
     have hllN : ll < N := by have := zAQ bo.l (m := (N : Int)) (by omega); omega
     obtain ⟨r1, hr1⟩ : ∃ q : Nat, pkd bo.r ((N : Int) - 1) = (q : Int) := ⟨(pkd bo.r ((N : Int) - 1)).toNat, by have := zAQ bo.r (m := (N : Int) - 1) (by omega); omega⟩
     have hr1N : r1 < N := by have := zAQ bo.r (m := (N : Int) - 1) (by omega); omega
     obtain ⟨rr, hrr⟩ : ∃ q : Nat, ((ll : Int) + 1 + (r1 : Int)).tmod (N : Int) = (q : Int) := ⟨(((ll : Int) + 1 + (r1 : Int)).tmod (N : Int)).toNat, by have := Int.tmod_nonneg (a := (ll : Int) + 1 + (r1 : Int)) (N : Int) (by omega); omega⟩
     have hrrN : rr < N := by have := Int.tmod_lt_of_pos ((ll : Int) + 1 + (r1 : Int)) (b := (N : Int)) (by omega); omega
     have HPL := hid (fun W => zAF bo.l (N : Int) W hbok.l.1 hbok.l.2 (by omega) (by have := HN3.out.2; omega))
     have HPR := hid (fun W => zAF bo.r ((N : Int) - 1) W hbok.r.1 hbok.r.2 (by omega) (by have := HN3.out.2; omega))
     have HPO := hid (fun W => zAF bo.ot 2 W hbok.ot.1 hbok.ot.2 (by decide) (by decide))
     obtain ⟨qo, hqo⟩ : ∃ x, pkd bo.ot 2 = x := ⟨_, rfl⟩
     have HQO := hid hqo
     rw [hll] at HPL
     rw [hr1] at HPR
     rw [hqo] at HPO
     have HOP := hid (fun W => zC8 bo.rl bo.lo bo.hi W hbok.rl.1 hbok.rl.2 hbok.lo.1 hbok.lo.2 hbok.hi.1 hbok.hi.2)
     obtain ⟨o2, ho2⟩ : ∃ x, (⟨opRl bo.ot, opLo bo.ot 1, opHi 1 0⟩ : Op3) = x := ⟨_, rfl⟩
     have HO2 : Hid (∀ W, Calls Tryz.prog 40 #[.int .i64 bo.ot, .int .i64 1, .int .i64 0] W fun e w' => e = .returned (.agg #[.int .i64 o2.r, .int .i64 o2.lo, .int .i64 o2.hi]) ∧ Below W.heap.size W w') := fun W => by rw [← ho2]; exact zC8 bo.ot 1 0 W hbok.ot.1 hbok.ot.2 (by decide) (by decide) (by decide) (by decide)
     have HEO2 := hid ho2
     obtain ⟨ag, ao, acq, hav, hnn⟩ := nm_all HR.out.r7 (by rw [zBB]; omega)
     have hnl := hnn ll (by rw [zBB]; exact hllN)
     have hnr := hnn rr (by rw [zBB]; exact hrrN)
     rw [zBB] at hav
     obtain ⟨NL, hNL⟩ : ∃ x, (alN N).getD ll (txt []) = x := ⟨_, rfl⟩
     obtain ⟨NR, hNR⟩ : ∃ x, (alN N).getD rr (txt []) = x := ⟨_, rfl⟩
     rw [hNL] at hnl
     rw [hNR] at hnr
     clear hnn
     simp only [Value.slice.injEq] at hav
     obtain ⟨rfl, _, rfl⟩ := hav
     have HEB : Hid (pwBs p.b (alN N) (m + 1) = pwBs p.b (alN N) m ++ [⟨NL, opS bo, NR⟩]) := by
       show _ = _
       rw [pwBs]
       unfold pwBl pick
       rw [hcc, zBB, hll, hr1, Int.toNat_natCast, hNL, show ((ll : Int) + 1 + (r1 : Int)) % (N : Int) = (rr : Int) from by rw [← hrr, Int.tmod_eq_emod_of_nonneg (by omega)], Int.toNat_natCast, hNR]
     obtain ⟨m1, m2, m3, hN0⟩ := bond_wr ll r1 N hllN hr1N HN3.out.2 hN2
     obtain ⟨i1, i3⟩ := zJM m L3 hmL
     obtain ⟨j1, j2⟩ := zJM ll N hllN
     obtain ⟨k1, k2⟩ := zJM rr N hrrN
     have i4 : m < L3 := hmL
     have j3 : ll < N := hllN
     have k3 : rr < N := hrrN
     have HNLw := hid hnl
     have HNRw := hid hnr
     clear hbok hlt hmL hx hm6 hN1 hmb hll hllN hr1 hr1N hrrN hqo ho2 hnl hnr hNL hNR
     go_upto_region 44 with (first
       | ((with_reducible show wpList _ _ _ (Oper.mk (some 241) _ _ _ _ _ :: _) _ _); refine wpList_load_mid (by rfl) 122 _ (by rfl) g (off + m * 6) (by rfl) [.int .i64 bo.l, .int .i64 bo.r, .int .i64 bo.rl, .int .i64 bo.lo, .int .i64 bo.hi, .int .i64 bo.ot] _ XBD.out Tryz.underlying122 rfl (by kernel_rfl) ?_)
       | ((with_reducible show wpList _ _ _ (Oper.mk _ (.store 122 _ _) _ _ _ _ :: _) _ _); refine zAY 122 wr.heap.size 0 [.int .i64 0, .int .i64 0, .int .i64 0, .int .i64 0, .int .i64 0, .int .i64 0] 122 [.int .i64 bo.l, .int .i64 bo.r, .int .i64 bo.rl, .int .i64 bo.lo, .int .i64 bo.hi, .int .i64 bo.ot] (heap_alloc_new _ _) ?_; intro w7 hq1 hq2; have HC7 : Hid (w7.heap[wr.heap.size]? = some (.cells #[.int .i64 bo.l, .int .i64 bo.r, .int .i64 bo.rl, .int .i64 bo.lo, .int .i64 bo.hi, .int .i64 bo.ot] 122 (0, 0))) := hq1; have HB7 : Hid (Below wr.heap.size wr w7) := zAI hq2; have q2 : w7.cell? ⟨wr.heap.size, 0, none⟩ = some (.int .i64 bo.l) := zAB HC7.out 0; have q3 : w7.cell? ⟨wr.heap.size, 1, none⟩ = some (.int .i64 bo.r) := zAB HC7.out 1; clear hq1 hq2)
       | (go_at_call_of 9 (Value.int IntKind.i64 bo.l); refine (HPL.out _).mono ?_; rintro e w7 ⟨rfl, rfl⟩)
       | (go_at_call_of 9 (Value.int IntKind.i64 bo.r); refine (HPR.out _).mono ?_; rintro e w7 ⟨rfl, rfl⟩))
     have HNL := hid (fun W (hW : Below w7.heap.size w7 W) => HNLw.out W (zAA HB7.out hW HB7.out.size))
     have HNR := hid (fun W (hW : Below w7.heap.size w7 W) => HNRw.out W (zAA HB7.out hW HB7.out.size))
     generalize hb21 : wr.heap.size = b21 at HC7 q2 q3 ⊢
     clear hb21 q2 q3
     refine zBI (by kernel_rfl) (fun i w9 v => ([(fun w9 v => v = (.slice (some ⟨ag, ao, none⟩) N ac)), (fun w9 v => v = .int .i64 (ll : Nat)), (fun w9 v => v = .pointer (some ⟨ag, ao + ll, none⟩)), (fun w9 v => v = .string NL), (fun w9 v => v = .pointer (some ⟨b21, 2, none⟩)), (fun w9 v => v = .int .i64 bo.rl), (fun w9 v => v = .pointer (some ⟨b21, 3, none⟩)), (fun w9 v => v = .int .i64 bo.lo), (fun w9 v => v = .pointer (some ⟨b21, 4, none⟩)), (fun w9 v => v = .int .i64 bo.hi), (fun w9 v => v = .agg #[.int .i64 (opB bo).r, .int .i64 (opB bo).lo, .int .i64 (opB bo).hi]), (fun w9 v => ∃ (b5 : Nat), v = .slice (some ⟨b5, 0, none⟩) 1 1 ∧ w9.heap[b5]? = some (.cells #[.int .i64 (opB bo).r, .int .i64 (opB bo).lo, .int .i64 (opB bo).hi] 63 (0, 0)) ∧ w7.heap.size ≤ b5), (fun w9 v => v = (.slice (some ⟨ag, ao, none⟩) N ac)), (fun w9 v => v = .int .i64 (rr : Nat)), (fun w9 v => v = .pointer (some ⟨ag, ao + rr, none⟩)), (fun w9 v => v = .string NR), (fun w9 v => ∃ (b5 : Nat), v = .agg #[.string NL, .slice (some ⟨b5, 0, none⟩) 1 1, .string NR] ∧ w9.heap[b5]? = some (.cells #[.int .i64 (opB bo).r, .int .i64 (opB bo).lo, .int .i64 (opB bo).hi] 63 (0, 0)) ∧ w7.heap.size ≤ b5), (fun w9 v => ∃ (b24 : Nat), v = .pointer (some ⟨b24, 0, none⟩) ∧ w9.heap[b24]? = some (.cells #[.string ⟨#[]⟩, .slice none 0 0, .string ⟨#[]⟩] 66 (0, 0)) ∧ w7.heap.size ≤ b24)] : List (World → Value → Prop)).getD i (fun _ _ => True) w9 v) (fun W => Below w7.heap.size w7 W) 323 18 rfl rfl [some 259, some 260, some 261, some 262, some 263, some 264, some 265, some 266, some 267, some 268, some 269, some 270, some 271, some 272, some 273, some 274, some 275, some 24] (by kernel_rfl) 66 (.tmp 24) (.tmp 275) (by rfl) (by rfl) (by kernel_rfl) (by kernel_rfl) (fun W W' => Below W.heap.size W W') ?hmon (Below.drew (Below.refl _ _)) (zAC.cons ?o0 (zAC.cons ?o1 (zAC.cons ?o2 (zAC.cons ?o3 (zAC.cons ?o4 (zAC.cons ?o5 (zAC.cons ?o6 (zAC.cons ?o7 (zAC.cons ?o8 (zAC.cons ?o9 (zAC.cons ?o10 (zAC.cons ?o11 (zAC.cons ?o12 (zAC.cons ?o13 (zAC.cons ?o14 (zAC.cons ?o15 (zAC.cons ?o16 (zAC.cons ?o17 zAC.nil)))))))))))))))))) ?hend
     case hmon =>
       intro q W W' v hb h
       rcases q with _ | _ | _ | _ | _ | _ | _ | _ | _ | _ | _ | _ | _ | _ | _ | _ | _ | _ | q
       . exact h
       . exact h
       . exact h
       . exact h
       . exact h
       . exact h
       . exact h
       . exact h
       . exact h
       . exact h
       . exact h
       . obtain ⟨b5, e, h1, h2⟩ := h; exact ⟨b5, e, (hb.block _ (zAD h1)).trans h1, h2⟩
       . exact h
       . exact h
       . exact h
       . exact h
       . obtain ⟨b5, e, h1, h2⟩ := h; exact ⟨b5, e, (hb.block _ (zAD h1)).trans h1, h2⟩
       . obtain ⟨b5, e, h1, h2⟩ := h; exact ⟨b5, e, (hb.block _ (zAD h1)).trans h1, h2⟩
       . exact h
     case o0 =>
       intro a W hB hd ho
       have e7 : a.eval (.tmp 7) = (.slice (some ⟨ag, ao, none⟩) N ac) := ho 7 (by kernel_rfl)
       exact zA1 _ (by simp) _ e7 ⟨_, rfl, rfl, hB, Below.refl _ _⟩
     case o1 =>
       intro a W hB hd ho
       have e22 : a.eval (.tmp 22) = .int .i64 (ll : Nat) := ho 22 (by kernel_rfl)
       exact zA1 _ (by simp) _ e22 ⟨_, rfl, rfl, hB, Below.refl _ _⟩
     case o2 =>
       intro a W hB hd ho
       have e259 : a.eval (.tmp 259) = (.slice (some ⟨ag, ao, none⟩) N ac) := hd 0 259 (by kernel_rfl)
       have e260 : a.eval (.tmp 260) = .int .i64 (ll : Nat) := hd 1 260 (by kernel_rfl)
       exact zAK (.pointer (some ⟨ag, ao + ll, none⟩)) (by unfold execOp; simp only [ev_c, e259, e260]; go_simp) ⟨_, rfl, rfl, hB, Below.refl _ _⟩
     case o3 =>
       intro a W hB hd ho
       have e261 : a.eval (.tmp 261) = .pointer (some ⟨ag, ao + ll, none⟩) := hd 2 261 (by kernel_rfl)
       have c9 : W.cell? ⟨ag, ao + ll, none⟩ = some (.string NL) := HNL.out W hB
       exact zAK (.string NL) (by unfold execOp; simp only [ev_c, e261]; go_simp) ⟨_, rfl, rfl, hB, Below.refl _ _⟩
     case o4 =>
       intro a W hB hd ho
       have e21 : a.eval (.tmp 21) = .pointer (some ⟨b21, 0, none⟩) := ho 21 (by kernel_rfl)
       exact zAK (.pointer (some ⟨b21, 2, none⟩)) (by unfold execOp; simp only [ev_c, e21]; go_simp) ⟨_, rfl, rfl, hB, Below.refl _ _⟩
     case o5 =>
       intro a W hB hd ho
       have e263 : a.eval (.tmp 263) = .pointer (some ⟨b21, 2, none⟩) := hd 4 263 (by kernel_rfl)
       have c9 : W.cell? ⟨b21, 2, none⟩ = some (.int .i64 bo.rl) := by
         rw [zAB ((hB.block _ (zAD HC7.out)).trans HC7.out)]
         rfl
       exact zAK (.int .i64 bo.rl) (by unfold execOp; simp only [ev_c, e263]; go_simp) ⟨_, rfl, rfl, hB, Below.refl _ _⟩
     case o6 =>
       intro a W hB hd ho
       have e21 : a.eval (.tmp 21) = .pointer (some ⟨b21, 0, none⟩) := ho 21 (by kernel_rfl)
       exact zAK (.pointer (some ⟨b21, 3, none⟩)) (by unfold execOp; simp only [ev_c, e21]; go_simp) ⟨_, rfl, rfl, hB, Below.refl _ _⟩
     case o7 =>
       intro a W hB hd ho
       have e265 : a.eval (.tmp 265) = .pointer (some ⟨b21, 3, none⟩) := hd 6 265 (by kernel_rfl)
       have c9 : W.cell? ⟨b21, 3, none⟩ = some (.int .i64 bo.lo) := by
         rw [zAB ((hB.block _ (zAD HC7.out)).trans HC7.out)]
         rfl
       exact zAK (.int .i64 bo.lo) (by unfold execOp; simp only [ev_c, e265]; go_simp) ⟨_, rfl, rfl, hB, Below.refl _ _⟩
     case o8 =>
       intro a W hB hd ho
       have e21 : a.eval (.tmp 21) = .pointer (some ⟨b21, 0, none⟩) := ho 21 (by kernel_rfl)
       exact zAK (.pointer (some ⟨b21, 4, none⟩)) (by unfold execOp; simp only [ev_c, e21]; go_simp) ⟨_, rfl, rfl, hB, Below.refl _ _⟩
     case o9 =>
       intro a W hB hd ho
       have e267 : a.eval (.tmp 267) = .pointer (some ⟨b21, 4, none⟩) := hd 8 267 (by kernel_rfl)
       have c9 : W.cell? ⟨b21, 4, none⟩ = some (.int .i64 bo.hi) := by
         rw [zAB ((hB.block _ (zAD HC7.out)).trans HC7.out)]
         rfl
       exact zAK (.int .i64 bo.hi) (by unfold execOp; simp only [ev_c, e267]; go_simp) ⟨_, rfl, rfl, hB, Below.refl _ _⟩
     case o10 =>
       intro a W hB hd ho
       have e264 : a.eval (.tmp 264) = .int .i64 bo.rl := hd 5 264 (by kernel_rfl)
       have e266 : a.eval (.tmp 266) = .int .i64 bo.lo := hd 7 266 (by kernel_rfl)
       have e268 : a.eval (.tmp 268) = .int .i64 bo.hi := hd 9 268 (by kernel_rfl)
       refine zA0 40 zGM _ _ rfl #[.int .i64 bo.rl, .int .i64 bo.lo, .int .i64 bo.hi] (by simp [e264, e266, e268]) _ (HOP.out W) ?_
       rintro e W' ⟨rfl, hal⟩
       exact ⟨_, rfl, _, rfl, rfl, zAA hB hal hB.size, hal⟩
     case o11 =>
       intro a W hB hd ho
       have e269 : a.eval (.tmp 269) = .agg #[.int .i64 (opB bo).r, .int .i64 (opB bo).lo, .int .i64 (opB bo).hi] := hd 10 269 (by kernel_rfl)
       have hal : Below W.heap.size W (W.alloc (.cells #[.int .i64 (opB bo).r, .int .i64 (opB bo).lo, .int .i64 (opB bo).hi] 63)) := (Below.refl _ _).alloc (Nat.le_refl _) _
       refine zBT 64 1 _ rfl #[(0, .agg #[.int .i64 (opB bo).r, .int .i64 (opB bo).lo, .int .i64 (opB bo).hi])] (by simp [ev_c, e269]) (.slice (some ⟨W.heap.size, 0, none⟩) 1 1) (W.alloc (.cells #[.int .i64 (opB bo).r, .int .i64 (opB bo).lo, .int .i64 (opB bo).hi] 63)) (by kernel_rfl) ⟨_, rfl, ⟨W.heap.size, rfl, heap_alloc_new _ _, hB.size⟩, zAA hB hal hB.size, hal⟩
     case o12 =>
       intro a W hB hd ho
       have e7 : a.eval (.tmp 7) = (.slice (some ⟨ag, ao, none⟩) N ac) := ho 7 (by kernel_rfl)
       exact zA1 _ (by simp) _ e7 ⟨_, rfl, rfl, hB, Below.refl _ _⟩
     case o13 =>
       intro a W hB hd ho
       have e23 : a.eval (.tmp 23) = .int .i64 (rr : Nat) := ho 23 (by kernel_rfl)
       exact zA1 _ (by simp) _ e23 ⟨_, rfl, rfl, hB, Below.refl _ _⟩
     case o14 =>
       intro a W hB hd ho
       have e271 : a.eval (.tmp 271) = (.slice (some ⟨ag, ao, none⟩) N ac) := hd 12 271 (by kernel_rfl)
       have e272 : a.eval (.tmp 272) = .int .i64 (rr : Nat) := hd 13 272 (by kernel_rfl)
       exact zAK (.pointer (some ⟨ag, ao + rr, none⟩)) (by unfold execOp; simp only [ev_c, e271, e272]; go_simp) ⟨_, rfl, rfl, hB, Below.refl _ _⟩
     case o15 =>
       intro a W hB hd ho
       have e273 : a.eval (.tmp 273) = .pointer (some ⟨ag, ao + rr, none⟩) := hd 14 273 (by kernel_rfl)
       have c9 : W.cell? ⟨ag, ao + rr, none⟩ = some (.string NR) := HNR.out W hB
       exact zAK (.string NR) (by unfold execOp; simp only [ev_c, e273]; go_simp) ⟨_, rfl, rfl, hB, Below.refl _ _⟩
     case o16 =>
       intro a W hB hd ho
       have e262 : a.eval (.tmp 262) = .string NL := hd 3 262 (by kernel_rfl)
       obtain ⟨b5, e270, h1, h2⟩ : ∃ (b5 : Nat), a.eval (.tmp 270) = .slice (some ⟨b5, 0, none⟩) 1 1 ∧ W.heap[b5]? = some (.cells #[.int .i64 (opB bo).r, .int .i64 (opB bo).lo, .int .i64 (opB bo).hi] 63 (0, 0)) ∧ w7.heap.size ≤ b5 := hd 11 270 (by kernel_rfl)
       have e274 : a.eval (.tmp 274) = .string NR := hd 15 274 (by kernel_rfl)
       exact zCC 66 _ rfl #[(0, .string NL), (1, .slice (some ⟨b5, 0, none⟩) 1 1), (2, .string NR)] (by simp [ev_c, e262, e270, e274]) (.agg #[.string NL, .slice (some ⟨b5, 0, none⟩) 1 1, .string NR]) (by kernel_rfl) ⟨_, rfl, ⟨b5, rfl, h1, h2⟩, hB, Below.refl _ _⟩
     case o17 =>
       intro a W hB hd ho
       have hal : Below W.heap.size W (W.alloc (.cells #[.string ⟨#[]⟩, .slice none 0 0, .string ⟨#[]⟩] 66)) := (Below.refl _ _).alloc (Nat.le_refl _) _
       exact zFQ 66 rfl [.string ⟨#[]⟩, .slice none 0 0, .string ⟨#[]⟩] (by kernel_rfl) ⟨_, rfl, ⟨W.heap.size, rfl, heap_alloc_new _ _, hB.size⟩, zAA hB hal hB.size, hal⟩
     case hend =>
       intro vs W hB hT
       obtain ⟨b5, e16, h1, h2⟩ : ∃ (b5 : Nat), vs 16 = .agg #[.string NL, .slice (some ⟨b5, 0, none⟩) 1 1, .string NR] ∧ W.heap[b5]? = some (.cells #[.int .i64 (opB bo).r, .int .i64 (opB bo).lo, .int .i64 (opB bo).hi] 63 (0, 0)) ∧ w7.heap.size ≤ b5 := hT 16 (by decide)
       obtain ⟨b24, e17, h3, h4⟩ : ∃ (b24 : Nat), vs 17 = .pointer (some ⟨b24, 0, none⟩) ∧ W.heap[b24]? = some (.cells #[.string ⟨#[]⟩, .slice none 0 0, .string ⟨#[]⟩] 66 (0, 0)) ∧ w7.heap.size ≤ b24 := hT 17 (by decide)
       refine ⟨b24, 0, [.string ⟨#[]⟩, .slice none 0 0, .string ⟨#[]⟩], 66, .agg #[.string NL, .slice (some ⟨b5, 0, none⟩) 1 1, .string NR], [.string NL, .slice (some ⟨b5, 0, none⟩) 1 1, .string NR], Eq.trans (b := vs 17) (by kernel_rfl) e17, Eq.trans (b := vs 16) (by kernel_rfl) e16, rfl, h3, by simp, by kernel_rfl, rfl, ?_⟩
       intro w8 hq1 hq2
       have HBK : Hid (w8.heap[b24]? = some (.cells #[.string NL, .slice (some ⟨b5, 0, none⟩) 1 1, .string NR] 66 (0, 0))) := hq1
       have HO8 : Hid (w8.heap[b5]? = some (.cells #[.int .i64 (opB bo).r, .int .i64 (opB bo).lo, .int .i64 (opB bo).hi] 63 (0, 0))) := (hq2.block b5 (zAD h1) (fun h9 => (TB.ne ⟨_, h1⟩ ⟨_, h3⟩ (by decide)) h9)).trans h1
       have HBR : Hid (Below wr.heap.size wr w8) := zAG (zAA HB7.out hB HB7.out.size) hq2 (Nat.le_trans HB7.out.size h4)
       have HR8 := hid (HR.out.below HBR.out)
       have HC8 : Hid (w8.heap[b21]? = some (.cells #[.int .i64 bo.l, .int .i64 bo.r, .int .i64 bo.rl, .int .i64 bo.lo, .int .i64 bo.hi, .int .i64 bo.ot] 122 (0, 0))) := (hq2.block b21 (Nat.lt_of_lt_of_le (zAD HC7.out) hB.size) (fun h9 => by have h8 := zAD HC7.out; omega)).trans ((hB.block _ (zAD HC7.out)).trans HC7.out)
       have HN5 : Hid (w.heap.size ≤ b5) := by show _ ≤ _; have := HR.out.bel.size; have := HB7.out.size; omega
       have HN6 : Hid (wr.heap.size ≤ b5) := by show _ ≤ _; have := HB7.out.size; omega
       have HN24 : Hid (wr.heap.size ≤ b24) := by show _ ≤ _; have := HB7.out.size; omega
       have q5 : w8.cell? ⟨b21, 5, none⟩ = some (.int .i64 bo.ot) := by rw [zAB HC8.out]; rfl
       clear hq1 hq2 h1 h2 h3 h4 hB hT
       simp only [zB0, Act.put, List.setIfInBounds_toArray, e16, e17]
       simp only [zBJ]
       simp only [List.set_cons_zero, List.set_cons_succ]
       clear e16 e17
       generalize vs 0 = v0
       generalize vs 1 = v1
       generalize vs 2 = v2
       generalize vs 3 = v3
       generalize vs 4 = v4
       generalize vs 5 = v5
       generalize vs 6 = v6
       generalize vs 7 = v7
       generalize vs 8 = v8
       generalize vs 9 = v9
       generalize vs 10 = v10
       generalize vs 11 = v11
       generalize vs 12 = v12
       generalize vs 13 = v13
       generalize vs 14 = v14
       generalize vs 15 = v15
       clear vs
       go_upto_if 279 with (go_at_call 9; refine (HPO.out _).mono ?_; rintro e w8 ⟨rfl, rfl⟩)
       go_cut [24] from 219 to 293 (fun s24 wx => s24 = .pointer (some ⟨b24, 0, none⟩) ∧ ∃ (op : Option Addr) (on oc : Nat), wx.heap[b24]? = some (.cells #[.string NL, .slice op on oc, .string NR] 66 (0, 0)) ∧ KT wx w.heap.size isQ (encK ⟨NL, opS bo, NR⟩) [.string NL, .slice op on oc, .string NR] ∧ Below wr.heap.size wr wx)
       case first =>
         by_cases hqo : qo = 1
         . have g1 : (qo == 1) = true := by simp; omega
           have HOS : Hid (opS bo = [opB bo, o2]) := by show _ = _; unfold opS; rw [HQO.out, if_pos hqo, HEO2.out]
           clear hqo
           go_upto_region 46 with fail
           refine zA2 (by kernel_rfl) (fun i w9 v => ([(fun w9 v => v = .pointer (some ⟨b24, 1, none⟩)), (fun w9 v => v = .slice (some ⟨b5, 0, none⟩) 1 1), (fun w9 v => v = .pointer (some ⟨b21, 5, none⟩)), (fun w9 v => v = .int .i64 bo.ot), (fun w9 v => v = .agg #[.int .i64 o2.r, .int .i64 o2.lo, .int .i64 o2.hi]), (fun w9 v => ∃ (b6 : Nat), v = .slice (some ⟨b6, 0, none⟩) 1 1 ∧ w9.heap[b6]? = some (.cells #[.int .i64 o2.r, .int .i64 o2.lo, .int .i64 o2.hi] 63 (0, 0))), (fun w9 v => True), (fun w9 v => v = .pointer (some ⟨b24, 1, none⟩))] : List (World → Value → Prop)).getD i (fun _ _ => True) w9 v) (fun W => Below w8.heap.size w8 W) 6 8 (fun w9 v => ∃ (p' : Option Addr) (c' : Nat) (Wp : World), v = .slice p' 2 c' ∧ Below w8.heap.size w8 Wp ∧ Wp.grownBy w9 (some b5) ∧ RwT w9 w.heap.size isC 63 3 (.slice p' 2 c') ([encQ (opB bo)] ++ [encQ o2])) 323 rfl rfl (by decide) [some 280, some 281, some 282, some 283, some 284, some 285, some 286, some 287] (by kernel_rfl) 64 (.tmp 287) (.tmp 286) (by rfl) (by rfl) (by kernel_rfl) (by kernel_rfl) (by kernel_rfl) (fun W W' => Below W.heap.size W W') ?hmon ?hpi (Below.drew (Below.refl _ _)) (zAC.cons ?o0 (zAC.cons ?o1 (zAC.cons ?o2 (zAC.cons ?o3 (zAC.cons ?o4 (zAC.cons ?o5 (zAC.cons ?o6 (zAC.cons ?o7 (zAC.cons ?o8 zAC.nil))))))))) ?hS ?hend
           case hmon =>
            intro q W W' v hb h
            rcases q with _ | _ | _ | _ | _ | _ | _ | _ | q
            . exact h
            . exact h
            . exact h
            . exact h
            . exact h
            . obtain ⟨b6, e, h1⟩ := h; exact ⟨b6, e, (hb.block _ (zAD h1)).trans h1⟩
            . exact h
            . exact h
            . exact h
           case hpi =>
            intro q W W' v hq h
            rcases q with _ | _ | _ | _ | _ | _ | _ | _ | _ | q
            . exact absurd hq (by decide)
            . exact absurd hq (by decide)
            . exact absurd hq (by decide)
            . exact absurd hq (by decide)
            . exact absurd hq (by decide)
            . exact absurd hq (by decide)
            . exact absurd hq (by decide)
            . exact h
            . exact h
            . exact h
           case o0 =>
            intro _ _ a W hB hd ho
            replace hB := hB (by decide)
            have e24 : a.eval (.tmp 24) = .pointer (some ⟨b24, 0, none⟩) := ho 24 (by kernel_rfl)
            exact zAK (.pointer (some ⟨b24, 1, none⟩)) (by unfold execOp; simp only [ev_c, e24]; go_simp) ⟨_, rfl, rfl, fun _ => hB, fun _ => Below.refl _ _, fun _ => rfl⟩
           case o1 =>
            intro _ _ a W hB hd ho
            replace hB := hB (by decide)
            have e280 : a.eval (.tmp 280) = .pointer (some ⟨b24, 1, none⟩) := hd 0 280 (by kernel_rfl) (by decide)
            have c9 : W.cell? ⟨b24, 1, none⟩ = some (.slice (some ⟨b5, 0, none⟩) 1 1) := by
              rw [zAB ((hB.block _ (zAD HBK.out)).trans HBK.out)]
              rfl
            exact zAK (.slice (some ⟨b5, 0, none⟩) 1 1) (by unfold execOp; simp only [ev_c, e280]; go_simp) ⟨_, rfl, rfl, fun _ => hB, fun _ => Below.refl _ _, fun _ => rfl⟩
           case o2 =>
            intro _ _ a W hB hd ho
            replace hB := hB (by decide)
            have e21 : a.eval (.tmp 21) = .pointer (some ⟨b21, 0, none⟩) := ho 21 (by kernel_rfl)
            exact zAK (.pointer (some ⟨b21, 5, none⟩)) (by unfold execOp; simp only [ev_c, e21]; go_simp) ⟨_, rfl, rfl, fun _ => hB, fun _ => Below.refl _ _, fun _ => rfl⟩
           case o3 =>
            intro _ _ a W hB hd ho
            replace hB := hB (by decide)
            have e282 : a.eval (.tmp 282) = .pointer (some ⟨b21, 5, none⟩) := hd 2 282 (by kernel_rfl) (by decide)
            have c9 : W.cell? ⟨b21, 5, none⟩ = some (.int .i64 bo.ot) := by
              rw [zAB ((hB.block _ (zAD HC8.out)).trans HC8.out)]
              rfl
            exact zAK (.int .i64 bo.ot) (by unfold execOp; simp only [ev_c, e282]; go_simp) ⟨_, rfl, rfl, fun _ => hB, fun _ => Below.refl _ _, fun _ => rfl⟩
           case o4 =>
            intro _ _ a W hB hd ho
            replace hB := hB (by decide)
            have e283 : a.eval (.tmp 283) = .int .i64 bo.ot := hd 3 283 (by kernel_rfl) (by decide)
            refine zA0 40 zGM _ _ rfl #[.int .i64 bo.ot, .int .i64 1, .int .i64 0] (by simp [ev_c, e283]) _ (HO2.out W) ?_
            rintro e W' ⟨rfl, hal⟩
            exact ⟨_, rfl, _, rfl, rfl, fun _ => zAA hB hal hB.size, fun _ => hal, fun h9 => absurd h9 (by decide)⟩
           case o5 =>
            intro _ _ a W hB hd ho
            replace hB := hB (by decide)
            have e284 : a.eval (.tmp 284) = .agg #[.int .i64 o2.r, .int .i64 o2.lo, .int .i64 o2.hi] := hd 4 284 (by kernel_rfl) (by decide)
            have hal : Below W.heap.size W (W.alloc (.cells #[.int .i64 o2.r, .int .i64 o2.lo, .int .i64 o2.hi] 63)) := (Below.refl _ _).alloc (Nat.le_refl _) _
            refine zBT 64 1 _ rfl #[(0, .agg #[.int .i64 o2.r, .int .i64 o2.lo, .int .i64 o2.hi])] (by simp [ev_c, e284]) (.slice (some ⟨W.heap.size, 0, none⟩) 1 1) (W.alloc (.cells #[.int .i64 o2.r, .int .i64 o2.lo, .int .i64 o2.hi] 63)) (by kernel_rfl) ⟨_, rfl, ⟨W.heap.size, rfl, heap_alloc_new _ _⟩, fun _ => zAA hB hal hB.size, fun _ => hal, fun h9 => absurd h9 (by decide)⟩
           case o6 =>
            intro h9; exact absurd rfl h9
           case o7 =>
            intro _ _ a W hB hd ho
            have e24 : a.eval (.tmp 24) = .pointer (some ⟨b24, 0, none⟩) := ho 24 (by kernel_rfl)
            exact zAK (.pointer (some ⟨b24, 1, none⟩)) (by unfold execOp; simp only [ev_c, e24]; go_simp) ⟨_, rfl, rfl, fun h9 => absurd h9 (by decide), fun h9 => absurd h9 (by decide), fun _ => rfl⟩
           case o8 =>
            intro _ h9; exact absurd rfl h9
           case hS =>
            intro a W vs hB hT hd hout
            have e1 : vs 1 = .slice (some ⟨b5, 0, none⟩) 1 1 := hT 1 (by decide)
            obtain ⟨b6, e5, h1⟩ : ∃ (b6 : Nat), vs 5 = .slice (some ⟨b6, 0, none⟩) 1 1 ∧ W.heap[b6]? = some (.cells #[.int .i64 o2.r, .int .i64 o2.lo, .int .i64 o2.hi] 63 (0, 0)) := hT 5 (by decide)
            refine zCI _ _ 64 rfl w.heap.size isC 63 3 24 iq _ Tryz.underlying64 HIQ.out.1 HIQ.out.2.1 HIQ.out.2.2.1 HIQ.out.2.2.2 rfl (by omega) (by decide) (.slice (some ⟨b5, 0, none⟩) 1 1) [encQ (opB bo)] ((hd 1 281 (by kernel_rfl)).trans e1) (zGF HN5.out ((hB.block _ (zAD HO8.out)).trans HO8.out) rfl (KT.lits _ _ _ [.int .i64 (opB bo).r, .int .i64 (opB bo).lo, .int .i64 (opB bo).hi])) (Nat.le_trans HR8.out.bel.size hB.size) b6 [.int .i64 o2.r, .int .i64 o2.lo, .int .i64 o2.hi] ((hd 5 285 (by kernel_rfl)).trans e5) h1 rfl rfl (encQ o2) (KT.lits _ _ _ [.int .i64 o2.r, .int .i64 o2.lo, .int .i64 o2.hi]) (by decide) (by simp) 2 rfl ?_
            intro p' c' W' k1 k2 k3
            exact ⟨_, rfl, p', c', W, rfl, hB, k2, k1⟩
           case hend =>
            intro vs W hB2 hT
            obtain ⟨p', c', Wp, e6, k1, k2, k4⟩ := hB2
            have e7 : vs 7 = .pointer (some ⟨b24, 1, none⟩) := hT 7 (by decide) (by decide)
            have hb24 : W.heap[b24]? = some (.cells #[.string NL, .slice (some ⟨b5, 0, none⟩) 1 1, .string NR] 66 (0, 0)) := (k2.block b24 (Nat.lt_of_lt_of_le (zAD HBK.out) k1.size) (fun h9 => (TB.ne ⟨_, HBK.out⟩ ⟨_, HO8.out⟩ (by decide)) (by simpa using h9))).trans ((k1.block _ (zAD HBK.out)).trans HBK.out)
            refine ⟨b24, 1, [.string NL, .slice (some ⟨b5, 0, none⟩) 1 1, .string NR], 66, .slice p' 2 c', [.slice p' 2 c'], Eq.trans (b := vs 7) (by kernel_rfl) e7, Eq.trans (b := vs 6) (by kernel_rfl) e6, rfl, hb24, by simp, by kernel_rfl, rfl, ?_⟩
            intro w9 hq1 hq2
            have HKL9 := hid (KT.fr (kt_link2 (l := NL) (r := NR) k4) hq2 ⟨_, hb24⟩ (by decide))
            have HBL9 : Hid (Below wr.heap.size wr w9) := zAG ((zAA HBR.out k1 HBR.out.size).grown k2 (Nat.le_trans HBR.out.size k1.size) (fun k hk => by cases hk; exact HN6.out)) hq2 HN24.out
            have HB9 : Hid (w9.heap[b24]? = some (.cells #[.string NL, .slice p' 2 c', .string NR] 66 (0, 0))) := hq1
            clear hq1 hq2 k1 k2 k4 hT hb24
            simp only [zB0, Act.put, List.setIfInBounds_toArray, e6, e7]
            simp only [zBJ]
            simp only [List.set_cons_zero, List.set_cons_succ]
            clear e6 e7
            generalize vs 0 = v0
            generalize vs 1 = v1
            generalize vs 2 = v2
            generalize vs 3 = v3
            generalize vs 4 = v4
            generalize vs 5 = v5
            clear vs
            go_wp2_with fail
            go_meet
            exact ⟨rfl, p', 2, c', HB9.out, by rw [HOS.out]; exact HKL9.out, HBL9.out⟩
         . have g1 : (qo == 1) = false := by simp; omega
           have HOS : Hid (opS bo = [opB bo]) := by show _ = _; unfold opS; rw [HQO.out, if_neg hqo]
           clear hqo
           go_wp2_with fail
           go_meet
           exact ⟨rfl, some ⟨b5, 0, none⟩, 1, 1, HBK.out, by rw [HOS.out]; exact zJO HN5.out HO8.out, HBR.out⟩
       case rest =>
         obtain ⟨rfl, op, on, oc, hq1, hq2, hq3⟩ := hcut
         clear HBK
         have HBK := hid hq1
         have HKP := hid hq2
         have HRC := hid (HR.out.below hq3)
         have q8 : wc.cell? ⟨w.heap.size + 2, 4, none⟩ = some (.slice kp4 (M1 + m) kc4) := by rw [zAB HRC.out.ub]; rfl
         have HLB1 : Hid (((pwUs p.t (alN N) M1 ++ pwBs p.b (alN N) m).map encK).length ≤ 10) := by show _ ≤ 10; rw [List.length_map, List.length_append, zCM, zDO]; have := HML.out; omega
         have HLB2 : Hid (((pwUs p.t (alN N) M1 ++ pwBs p.b (alN N) m).map encK).length + 1 = M1 + (m + 1)) := by show _ + 1 = _; rw [List.length_map, List.length_append, zCM, zDO]; omega
         clear hq1 hq2 hq3 HO8 HC8 q5
         have HWM : Hid (RowKit.wrap64 ((m : Int) + 1) = ((m + 1 : Nat) : Int)) := nat_wr m (Nat.le_of_lt (Nat.lt_of_le_of_lt (Nat.le_add_left m M1) (Nat.lt_of_lt_of_le HML.out (by decide))))
         clear m1 m2 m3
         go_wp2_with (first
         | ((with_reducible show wpList _ _ _ (Oper.mk (some 290) _ _ _ _ _ :: _) _ _); refine wpList_load_mid (by rfl) 66 _ (by rfl) b24 0 (by rfl) [.string NL, .slice op on oc, .string NR] _ (zAJ HBK.out) Tryz.underlying66 rfl (by kernel_rfl) ?_)
         | ((with_reducible show wpList _ _ _ (Oper.mk (some 291) _ _ _ _ _ :: _) _ _); refine zCQ (by rfl) 51 1 _ (by rfl) #[(0, (.agg #[.string NL, .slice op on oc, .string NR]))] (by simp [Act.eval, Act.put]) [.string NL, .slice op on oc, .string NR] 66 (fun w => by kernel_rfl) ?_; intro b2 w2 hq1 hq2; have HB2 := hid hq1; have HRD := hid (HRC.out.below hq2); have HKD := hid (HKP.out.below hq2); have HBK2 : Hid (w2.heap[b24]? = some (.cells #[.string NL, .slice op on oc, .string NR] 66 (0, 0))) := (hq2.block _ (zAD HBK.out)).trans HBK.out; have HBB2 := hid hq2; clear hq1 hq2)
         | ((with_reducible show wpList _ _ _ (Oper.mk (some 292) _ _ _ _ _ :: _) _ _); refine zB1 (by rfl) _ _ 51 (by rfl) w.heap.size isQ 66 3 56 ik _ Tryz.underlying51 HIK.out.1 HIK.out.2.1 HIK.out.2.2.1 HIK.out.2.2.2 rfl (by omega) (by decide) (.slice kp4 (M1 + m) kc4) ((pwUs p.t (alN N) M1 ++ pwBs p.b (alN N) m).map encK) (by rfl) HRD.out.r4 HRD.out.bel.size b2 [.string NL, .slice op on oc, .string NR] (by rfl) HB2.out (by rfl) (by rfl) (encK ⟨NL, opS bo, NR⟩) HKD.out (by decide) HLB1.out (M1 + (m + 1)) HLB2.out ?_; intro kp5 kc5 w5 hq1 hq2 hq3; have HR5 := hid hq1; have HG5 := hid hq2; have HO5 := hid hq3; clear hq1 hq2 hq3)
         | ((with_reducible show wpList _ _ _ (Oper.mk _ (.store 51 _ _) _ _ _ _ :: _) _ _); refine zAT 51 (w.heap.size + 2) 4 [.string nm, (.slice wp N wcp), (.slice tp M1 tc), (.slice mp M2 mc), (.slice kp4 (M1 + m) kc4), .string ⟨#[]⟩, .slice none 0 0] 56 (.slice kp5 (M1 + (m + 1)) kc5) [.slice kp5 (M1 + (m + 1)) kc5] (HRD.out.ub_kv HG5.out) ?_; intro w6 hq1 hq2; have HRE : Hid (Ru w w6 [.slice p0 L0 c0, .slice p1 L1 c1, .slice p2 L2 c2, .slice (some ⟨g, off, none⟩) L3 c3, .int .i64 p.e] (⟨nm, pwWs p.w N, pwTs p.t (pwK p.w N) M1, pwMs p.m (pwK p.w N) M2, (pwUs p.t (alN N) M1 ++ pwBs p.b (alN N) m) ++ [⟨NL, opS bo, NR⟩], ⟨txt [], []⟩⟩ : Rl) (pwK p.w N) (alN N) (.slice wp N wcp) (.slice tp M1 tc) (.slice mp M2 mc) (.slice kp5 (M1 + (m + 1)) kc5) (.slice np kl nc) (.slice (some ⟨ag, ao, none⟩) N ac)) := HRD.out.app_kv HG5.out HO5.out HR5.out hq1 hq2; clear hq1 hq2))
         go_roundg (MB + 1 - (m + 1))
         case rel =>
           refine ⟨m + 1, kp5, kc5, HLT.out, rfl, by first | go_num | rw [HWM.out], ?_⟩
           rw [HEB.out, ← List.append_assoc]
           exact HRE.out
         case measure => omega
  . obtain rfl : MB = m := by omega
    go_upto_region 39 with fail
    go_cut [234] from 219 to 293 (fun s wx => s = .bool false ∧ wr = wx)
    case first =>
     have q1 : wr.cell? ⟨w.heap.size, 3, none⟩ = some (.slice p3 L3 c3) := by rw [zAB HR.out.pb]; rfl
     have q2 : wr.cell? ⟨w.heap.size + 2, 4, none⟩ = some (.slice kp4 (M1 + MB) kc4) := by rw [zAB HR.out.ub]; rfl
     have hM1 := HM1.out
     by_cases h3 : MB < L3
     . have e1 : decide (MB < L3) = true := by simpa using h3
       by_cases hN1 : N = 1
       . have e0 := HMB.out.1 hN1
         have e2 : decide ((M1 + MB : Nat) < (6 : Int)) = true := by simp; omega
         have e2b : decide ((M1 : Int) + (MB : Int) < 6) = true := by simp; omega
         have e3 : decide ((1 : Int) < (N : Int)) = false := by simp; omega
         clear hlt h3 hN1 e0 hM1
         go_wp2_with fail
         go_meet
         exact ⟨rfl, rfl⟩
       . have e0 := HMB.out.2 hN1
         have e2 : decide ((M1 + MB : Nat) < (6 : Int)) = false := by simp; omega
         have e2b : decide ((M1 : Int) + (MB : Int) < 6) = false := by simp; omega
         clear hlt h3 hN1 e0 hM1
         go_wp2_with fail
         go_meet
         exact ⟨rfl, rfl⟩
     . have e1 : decide (MB < L3) = false := by simpa using h3
       clear hlt h3 hM1
       go_wp2_with fail
       go_meet
       exact ⟨rfl, rfl⟩
    case rest =>
     obtain ⟨rfl, rfl⟩ := hcut
     go_wp2_with fail
     exact HX.out kp4 kc4 _ _ _ _ _ _ _ _ _ _ _ _ _ _ _ _ _ _ _ _ _ _ _ _ _ _ _ _ _ _ _ _ _ _ _ _ _ _ _ _ _ _ _ _ _ _ _ _ _ _ _ _ _ _ _ _ _ _ _ _ _ _ _ _ _ _ _ _ _ _ _ _ _ _ _ _ _ _ _ _ HR.out
end Go.Proofs.YtnlmknbhppdliaaGreatDoor.Chk
