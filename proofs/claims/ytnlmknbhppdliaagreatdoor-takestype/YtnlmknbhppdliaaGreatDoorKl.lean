/-
  A rule of raw numbers: a loop.
-/
import Derived.Test.YtnlmknbhppdliaaGreatDoorKe
set_option maxHeartbeats 64000000
namespace Go.Proofs.YtnlmknbhppdliaaGreatDoor.Chk
open Go.ChangeShapes Go.WideShapes Go.ChangeAt Go.RowKit Go.Maps
set_option linter.unusedVariables false
set_option linter.unusedSimpArgs false
set_option maxRecDepth 20000
theorem rule_l3 (nm : ByteArray) (p : Plt) (hp : p.ok) (p0 : Option Addr) (c0 : Nat) (p1 : Option Addr) (c1 : Nat) (p2 : Option Addr) (c2 : Nat) (p3 : Option Addr) (c3 : Nat) (w : World) (N L0 L1 L2 L3 M1 M2 MB : Nat) (ip is im ik iq : TypeInfo)
  (HA0 : Hid (At zBC 5 w p0 p.w)) (HA1 : Hid (At zBC 5 w p1 p.t)) (HA2 : Hid (At zBC 5 w p2 p.m)) (HA3 : Hid (At zDG 6 w p3 p.b))
  (HNN : Hid (pwL p.w = N)) (HN3 : Hid (1 ≤ N ∧ N ≤ 3)) (HL0 : Hid (p.w.length = L0)) (HL1 : Hid (p.t.length = L1)) (HL2 : Hid (p.m.length = L2)) (HL3 : Hid (p.b.length = L3)) (HN0 : Hid (∀ k, k < N → k ≠ 0 → k < L0)) (HN1 : Hid (N < 3 → N ≠ 0 ∧ ¬ N < L0)) (HM1 : Hid (min L1 2 = M1)) (HM2 : Hid (min L2 2 = M2)) (HMBB : Hid (pwB p = MB)) (HMB : Hid ((N = 1 → MB = 0) ∧ (N ≠ 1 → MB = min L3 (6 - M1))))
  (HIP : Hid (Tryz.prog.info? 48 = some ip ∧ ip.zero = some zP ∧ ip.size = 18 ∧ ip.bytes = 224)) (HIS : Hid (Tryz.prog.info? 9 = some is ∧ is.zero = some (.string ByteArray.empty) ∧ is.size = 1 ∧ is.bytes = 16)) (HIM : Hid (Tryz.prog.info? 78 = some im ∧ im.zero = some zM ∧ im.size = 20 ∧ im.bytes = 248)) (HIK : Hid (Tryz.prog.info? 66 = some ik ∧ ik.zero = some (.agg #[.string ByteArray.empty, .slice none 0 0, .string ByteArray.empty]) ∧ ik.size = 3 ∧ ik.bytes = 56)) (HIQ : Hid (Tryz.prog.info? 63 = some iq ∧ iq.zero = some (.agg #[.int .i64 0, .int .i64 0, .int .i64 0]) ∧ iq.size = 3 ∧ iq.bytes = 24))
  (kl : Nat) (wp np ap : Option Addr) (wcp nc ac : Nat) (HKL : Hid ((pwK p.w N).length = kl))
  (tp kp : Option Addr) (tc kc : Nat)
  (w6 : World) (HR0 : Hid (Ru w w6 [.slice p0 L0 c0, .slice p1 L1 c1, .slice p2 L2 c2, .slice p3 L3 c3, .int .i64 p.e] (⟨nm, pwWs p.w N, pwTs p.t (pwK p.w N) M1, [], pwUs p.t (alN N) M1, ⟨txt [], []⟩⟩ : Rl) (pwK p.w N) (alN N) (.slice wp N wcp) (.slice tp M1 tc) (.slice none 0 0) (.slice kp M1 kc) (.slice np kl nc) (.slice ap N ac)))
  {Q : Exit → Act → World → Prop} (f0 f1 f2 f4 f8 f9 f10 f11 f12 f13 f14 f15 f17 f18 f19 f20 f21 f22 f23 f24 f25 f26 f27 f28 f29 f30 f31 f32 f33 f34 f35 f36 f37 f38 f39 f40 f41 f42 f43 f44 f45 f46 f47 f48 f49 f50 f51 f52 f53 f54 f55 f56 f57 f58 f59 f60 f61 f62 f63 f64 f65 f66 f67 f68 f69 f70 f71 f72 f73 f74 f75 f76 f77 f78 f79 f80 f81 f82 f83 f84 f85 f86 f87 f88 f89 f90 f91 f92 f93 f94 f95 f96 f97 f98 f99 f100 f101 f102 f103 f104 f105 f106 f107 f108 f109 f110 f111 f112 f113 f114 f115 f116 f117 f118 f119 f120 f121 f122 f123 f124 f125 f126 f127 f128 f129 f130 f131 f132 f133 f134 f135 f136 f137 f138 f139 f140 f141 f142 f143 f144 f145 f146 f147 f148 f149 f150 f151 f152 f153 f154 f155 f156 f157 f158 f159 f160 f161 f162 f163 f164 f165 f166 f167 f168 f169 f170 f171 f172 f173 f174 f175 f176 f177 f178 f179 f180 f181 f182 f183 f184 f185 f186 f187 f188 f189 f190 f191 f192 f193 f194 f195 f196 f197 f198 f199 f200 f201 f202 f203 f204 f205 f206 f207 f208 f209 f210 f211 f212 f213 f214 f215 f216 f217 f218 f219 f220 f221 f222 f223 f224 f225 f226 f227 f228 f229 f230 f231 f232 f233 f234 f235 f236 f237 f238 f239 f240 f241 f242 f243 f244 f245 f246 f247 f248 f249 f250 f251 f252 f253 f254 f255 f256 f257 f258 f259 f260 f261 f262 f263 f264 f265 f266 f267 f268 f269 f270 f271 f272 f273 f274 f275 f276 f277 f278 f279 f280 f281 f282 f283 f284 f285 f286 f287 f288 f289 f290 f291 f292 f293 f294 f295 f296 f297 f298 f299 f300 f301 f302 f303 f304 f305 f306 f307 f308 f309 f310 f311 f312 f313 f314 f315 f316 f317 f318 f319 f320 f321 f322 : Value)
  (hexit : ∀ (mp : Option Addr) (mc : Nat) (wr : World) (g17 g18 g19 g156 g157 g158 g159 g160 g161 g162 g163 g164 g165 g166 g167 g168 g169 g170 g171 g172 g173 g174 g175 g176 g177 g178 g179 g180 g181 g182 g183 g184 g185 g186 g187 g188 g189 g190 g191 g192 g193 g194 g195 g196 g197 g198 g199 g200 g201 g202 g203 g204 g205 g206 g207 g208 g209 g210 g211 g212 g213 g214 g215 g216 g217 g218 : Value), Ru w wr [.slice p0 L0 c0, .slice p1 L1 c1, .slice p2 L2 c2, .slice p3 L3 c3, .int .i64 p.e] (⟨nm, pwWs p.w N, pwTs p.t (pwK p.w N) M1, pwMs p.m (pwK p.w N) M2, pwUs p.t (alN N) M1, ⟨txt [], []⟩⟩ : Rl) (pwK p.w N) (alN N) (.slice wp N wcp) (.slice tp M1 tc) (.slice mp M2 mc) (.slice kp M1 kc) (.slice np kl nc) (.slice ap N ac) → Q (.exit 5) ⟨List.toArray (f0 :: f1 :: f2 :: (.pointer (some ⟨w.heap.size, 0, none⟩)) :: f4 :: (.pointer (some ⟨w.heap.size + 2, 0, none⟩)) :: (.slice np kl nc) :: (.slice ap N ac) :: f8 :: f9 :: f10 :: f11 :: f12 :: f13 :: f14 :: f15 :: (.int .i64 (M2 : Nat)) :: g17 :: g18 :: g19 :: f20 :: f21 :: f22 :: f23 :: f24 :: f25 :: f26 :: f27 :: f28 :: f29 :: f30 :: f31 :: f32 :: f33 :: f34 :: f35 :: f36 :: f37 :: f38 :: f39 :: f40 :: f41 :: f42 :: f43 :: f44 :: f45 :: f46 :: f47 :: f48 :: f49 :: f50 :: f51 :: f52 :: f53 :: f54 :: f55 :: f56 :: f57 :: f58 :: f59 :: f60 :: f61 :: f62 :: f63 :: f64 :: f65 :: f66 :: f67 :: f68 :: f69 :: f70 :: f71 :: f72 :: f73 :: f74 :: f75 :: f76 :: f77 :: f78 :: f79 :: f80 :: f81 :: f82 :: f83 :: f84 :: f85 :: f86 :: f87 :: f88 :: f89 :: f90 :: f91 :: f92 :: f93 :: f94 :: f95 :: f96 :: f97 :: f98 :: f99 :: f100 :: f101 :: f102 :: f103 :: f104 :: f105 :: f106 :: f107 :: f108 :: f109 :: f110 :: f111 :: f112 :: f113 :: f114 :: f115 :: f116 :: f117 :: f118 :: f119 :: f120 :: f121 :: f122 :: f123 :: f124 :: f125 :: f126 :: f127 :: f128 :: f129 :: f130 :: f131 :: f132 :: f133 :: f134 :: f135 :: f136 :: f137 :: f138 :: f139 :: f140 :: f141 :: f142 :: f143 :: f144 :: f145 :: f146 :: f147 :: f148 :: f149 :: f150 :: f151 :: f152 :: f153 :: f154 :: f155 :: g156 :: g157 :: g158 :: g159 :: g160 :: g161 :: g162 :: g163 :: g164 :: g165 :: g166 :: g167 :: g168 :: g169 :: g170 :: g171 :: g172 :: g173 :: g174 :: g175 :: g176 :: g177 :: g178 :: g179 :: g180 :: g181 :: g182 :: g183 :: g184 :: g185 :: g186 :: g187 :: g188 :: g189 :: g190 :: g191 :: g192 :: g193 :: g194 :: g195 :: g196 :: g197 :: g198 :: g199 :: g200 :: g201 :: g202 :: g203 :: g204 :: g205 :: g206 :: g207 :: g208 :: g209 :: g210 :: g211 :: g212 :: g213 :: g214 :: g215 :: g216 :: g217 :: g218 :: f219 :: f220 :: f221 :: f222 :: f223 :: f224 :: f225 :: f226 :: f227 :: f228 :: f229 :: f230 :: f231 :: f232 :: f233 :: f234 :: f235 :: f236 :: f237 :: f238 :: f239 :: f240 :: f241 :: f242 :: f243 :: f244 :: f245 :: f246 :: f247 :: f248 :: f249 :: f250 :: f251 :: f252 :: f253 :: f254 :: f255 :: f256 :: f257 :: f258 :: f259 :: f260 :: f261 :: f262 :: f263 :: f264 :: f265 :: f266 :: f267 :: f268 :: f269 :: f270 :: f271 :: f272 :: f273 :: f274 :: f275 :: f276 :: f277 :: f278 :: f279 :: f280 :: f281 :: f282 :: f283 :: f284 :: f285 :: f286 :: f287 :: f288 :: f289 :: f290 :: f291 :: f292 :: f293 :: f294 :: f295 :: f296 :: f297 :: f298 :: f299 :: f300 :: f301 :: f302 :: f303 :: f304 :: f305 :: f306 :: f307 :: f308 :: f309 :: f310 :: f311 :: f312 :: f313 :: f314 :: f315 :: f316 :: f317 :: f318 :: f319 :: f320 :: f321 :: f322 :: []), []⟩ wr) :
  Code.wp Tryz.prog (lpn Tryz.f18 2) Q ⟨List.toArray (f0 :: f1 :: f2 :: (.pointer (some ⟨w.heap.size, 0, none⟩)) :: f4 :: (.pointer (some ⟨w.heap.size + 2, 0, none⟩)) :: (.slice np kl nc) :: (.slice ap N ac) :: f8 :: f9 :: f10 :: f11 :: f12 :: f13 :: f14 :: f15 :: (.int .i64 0) :: f17 :: f18 :: f19 :: f20 :: f21 :: f22 :: f23 :: f24 :: f25 :: f26 :: f27 :: f28 :: f29 :: f30 :: f31 :: f32 :: f33 :: f34 :: f35 :: f36 :: f37 :: f38 :: f39 :: f40 :: f41 :: f42 :: f43 :: f44 :: f45 :: f46 :: f47 :: f48 :: f49 :: f50 :: f51 :: f52 :: f53 :: f54 :: f55 :: f56 :: f57 :: f58 :: f59 :: f60 :: f61 :: f62 :: f63 :: f64 :: f65 :: f66 :: f67 :: f68 :: f69 :: f70 :: f71 :: f72 :: f73 :: f74 :: f75 :: f76 :: f77 :: f78 :: f79 :: f80 :: f81 :: f82 :: f83 :: f84 :: f85 :: f86 :: f87 :: f88 :: f89 :: f90 :: f91 :: f92 :: f93 :: f94 :: f95 :: f96 :: f97 :: f98 :: f99 :: f100 :: f101 :: f102 :: f103 :: f104 :: f105 :: f106 :: f107 :: f108 :: f109 :: f110 :: f111 :: f112 :: f113 :: f114 :: f115 :: f116 :: f117 :: f118 :: f119 :: f120 :: f121 :: f122 :: f123 :: f124 :: f125 :: f126 :: f127 :: f128 :: f129 :: f130 :: f131 :: f132 :: f133 :: f134 :: f135 :: f136 :: f137 :: f138 :: f139 :: f140 :: f141 :: f142 :: f143 :: f144 :: f145 :: f146 :: f147 :: f148 :: f149 :: f150 :: f151 :: f152 :: f153 :: f154 :: f155 :: f156 :: f157 :: f158 :: f159 :: f160 :: f161 :: f162 :: f163 :: f164 :: f165 :: f166 :: f167 :: f168 :: f169 :: f170 :: f171 :: f172 :: f173 :: f174 :: f175 :: f176 :: f177 :: f178 :: f179 :: f180 :: f181 :: f182 :: f183 :: f184 :: f185 :: f186 :: f187 :: f188 :: f189 :: f190 :: f191 :: f192 :: f193 :: f194 :: f195 :: f196 :: f197 :: f198 :: f199 :: f200 :: f201 :: f202 :: f203 :: f204 :: f205 :: f206 :: f207 :: f208 :: f209 :: f210 :: f211 :: f212 :: f213 :: f214 :: f215 :: f216 :: f217 :: f218 :: f219 :: f220 :: f221 :: f222 :: f223 :: f224 :: f225 :: f226 :: f227 :: f228 :: f229 :: f230 :: f231 :: f232 :: f233 :: f234 :: f235 :: f236 :: f237 :: f238 :: f239 :: f240 :: f241 :: f242 :: f243 :: f244 :: f245 :: f246 :: f247 :: f248 :: f249 :: f250 :: f251 :: f252 :: f253 :: f254 :: f255 :: f256 :: f257 :: f258 :: f259 :: f260 :: f261 :: f262 :: f263 :: f264 :: f265 :: f266 :: f267 :: f268 :: f269 :: f270 :: f271 :: f272 :: f273 :: f274 :: f275 :: f276 :: f277 :: f278 :: f279 :: f280 :: f281 :: f282 :: f283 :: f284 :: f285 :: f286 :: f287 :: f288 :: f289 :: f290 :: f291 :: f292 :: f293 :: f294 :: f295 :: f296 :: f297 :: f298 :: f299 :: f300 :: f301 :: f302 :: f303 :: f304 :: f305 :: f306 :: f307 :: f308 :: f309 :: f310 :: f311 :: f312 :: f313 :: f314 :: f315 :: f316 :: f317 :: f318 :: f319 :: f320 :: f321 :: f322 :: []), []⟩ w6 := by
 have HX := hid hexit
 clear hexit
 conv => arg 2; whnf
 go_loopg [16] (M2 + 1) (fun gg s16 wr => ∃ (m : Nat) (mp : Option Addr) (mc : Nat), m ≤ M2 ∧ gg = M2 + 1 - m ∧ s16 = .int .i64 (m : Nat) ∧ Ru w wr [.slice p0 L0 c0, .slice p1 L1 c1, .slice p2 L2 c2, .slice p3 L3 c3, .int .i64 p.e] (⟨nm, pwWs p.w N, pwTs p.t (pwK p.w N) M1, pwMs p.m (pwK p.w N) m, pwUs p.t (alN N) M1, ⟨txt [], []⟩⟩ : Rl) (pwK p.w N) (alN N) (.slice wp N wcp) (.slice tp M1 tc) (.slice mp m mc) (.slice kp M1 kc) (.slice np kl nc) (.slice ap N ac))
 case atStart => exact ⟨0, none, 0, by omega, by omega, rfl, HR0.out⟩
 case round =>
  clear HR0
  obtain ⟨m, mp, mc, hm, rfl, rfl, hR⟩ := hrel
  have HR := hid hR
  clear hR
  by_cases hlt : m < M2
  . have HLT := hid hlt
    have hmL : m < L2 := by have := HM2.out; omega
    have hm2 : m < 2 := by have := HM2.out; omega
    obtain ⟨c, hcc⟩ : ∃ c, p.m.getD m cst0 = c := ⟨_, rfl⟩
    have hcok : c.ok := by rw [← hcc]; exact zGP hp.m m
    go_upto_region 29 with fail
    go_cut [164] from 156 to 218 (fun s wx => s = .bool true ∧ wr = wx)
    case first =>
     have q1 : wr.cell? ⟨w.heap.size, 2, none⟩ = some (.slice p2 L2 c2) := by rw [zAB HR.out.pb]; rfl
     have e1 : decide (m < L2) = true := by simpa using hmL
     have e2 : decide ((m : Int) < 2) = true := by simp; omega
     clear hlt hmL hm2
     go_wp2_with fail
     go_meet
     exact ⟨rfl, rfl⟩
    case rest =>
     obtain ⟨rfl, rfl⟩ := hcut
     have hx := cs_at HA2.out (k := m) (by have := HL2.out; omega)
     rw [hcc] at hx
     obtain ⟨g, off, hp1, hx⟩ := hx
     subst hp1
     have XCS := hid hx
     have HRB := HR
     have HBU : Hid (w.heap.size + 2 < wr.heap.size) := HR.out.bl
     obtain ⟨j, hj⟩ : ∃ j, pwA c = j := ⟨_, rfl⟩
     obtain ⟨X, hX⟩ : ∃ X, pwC c (pwK p.w N) = X := ⟨_, rfl⟩
     obtain ⟨VN, hVN⟩ : ∃ VN, mnm m = VN := ⟨_, rfl⟩
     have HVN : Hid ((#[.string ⟨#[112]⟩, .string ⟨#[113]⟩] : Array Value)[m]? = some (.string VN)) := by
       show _ = _
       rw [← hVN]
       rcases (by omega : m = 0 ∨ m = 1) with h9 | h9 <;> rw [h9] <;> rfl
     have HPAT := hid (fun W (hW : Below wr.heap.size wr W) => zET VN c hcok (pwK p.w N) (.slice np kl nc) W ((HRB.out.below hW).r6.rd) (by have := zDZ p.w N; have := HN3.out.2; omega))
     rw [hj, hX] at HPAT
     have HJX := hid (And.intro hj (And.intro hX hVN))
     have HP20 := hid (fun W => zAF c.si 20 W hcok.si.1 hcok.si.2 (by decide) (by decide))
     have HP3 := hid (fun W => zAF c.n 3 W hcok.n.1 hcok.n.2 (by decide) (by decide))
     have HP2 := hid (fun W => zAF c.wi 2 W hcok.wi.1 hcok.wi.2 (by decide) (by decide))
     have h3b := zAQ c.n (m := 3) (by decide)
     obtain ⟨s20, hs20⟩ : ∃ x, pkd c.si 20 = x := ⟨_, rfl⟩
     obtain ⟨q3, hq3⟩ : ∃ x, pkd c.n 3 = x := ⟨_, rfl⟩
     obtain ⟨q2, hq2⟩ : ∃ x, pkd c.wi 2 = x := ⟨_, rfl⟩
     rw [hs20] at HP20
     rw [hq3] at HP3 h3b
     rw [hq2] at HP2
     have HQS := hid (And.intro hq3 hs20)
     have HQ2 := hid hq2
     have m3 : IntKind.i64.wrap (1 + q3) = 1 + q3 := by go_unwrap
     have i1 : (0 : Int) ≤ (m : Int) := by omega
     have i2 : (m : Int) < 2 := by omega
     have i3 : (m : Int) < (L2 : Int) := by omega
     have i4 : m < L2 := hmL
     clear hcok hj hX hVN hlt hmL hx hs20 hq3 hq2 h3b
     go_upto_region 31 with fail
     refine zBA (by kernel_rfl) (fun i w9 v => ([(fun w9 v => ∃ (b : Nat), v = .slice (some ⟨b, 0, none⟩) 2 2 ∧ w9.heap[b]? = some (.cells #[.string ⟨#[112]⟩, .string ⟨#[113]⟩] 9 (0, 0))), (fun w9 v => v = .int .i64 (m : Nat)), (fun w9 v => ∃ (b : Nat), v = .pointer (some ⟨b, m, none⟩) ∧ w9.heap[b]? = some (.cells #[.string ⟨#[112]⟩, .string ⟨#[113]⟩] 9 (0, 0))), (fun w9 v => v = .string VN), (fun w9 v => v = .pointer (some ⟨w.heap.size, 2, none⟩)), (fun w9 v => v = .slice (some ⟨g, off, none⟩) L2 c2), (fun w9 v => v = .int .i64 (m : Nat)), (fun w9 v => v = .pointer (some ⟨g, off + m * 5, none⟩)), (fun w9 v => v = .agg #[.int .i64 c.ty, .int .i64 c.co, .int .i64 c.n, .int .i64 c.wi, .int .i64 c.si]), (fun w9 v => v = (.slice np kl nc)), (fun w9 v => ∃ (sp : Option Addr) (sn sc : Nat), v = .tuple #[ptV VN (tyN j) X.k (.slice sp sn sc) X.l X.r 0 0, .int .i64 (j : Nat)] ∧ KT w9 w.heap.size isC (encC X) (cnC X.k (.slice sp sn sc) X.l X.r)), (fun w9 v => ∃ (sp : Option Addr) (sn sc : Nat), v = .tuple #[ptV VN (tyN j) X.k (.slice sp sn sc) X.l X.r 0 0, .int .i64 (j : Nat)] ∧ KT w9 w.heap.size isC (encC X) (cnC X.k (.slice sp sn sc) X.l X.r)), (fun w9 v => ∃ (sp : Option Addr) (sn sc : Nat), v = ptV VN (tyN j) X.k (.slice sp sn sc) X.l X.r 0 0 ∧ KT w9 w.heap.size isC (encC X) (cnC X.k (.slice sp sn sc) X.l X.r)), (fun w9 v => v = .int .i64 (j : Nat)), (fun w9 v => ∃ (b : Nat), v = .pointer (some ⟨b, 0, none⟩) ∧ wr.heap.size ≤ b ∧ ∃ cs : List Value, cs.length = 18 ∧ w9.heap[b]? = some (.cells cs.toArray 48 (0, 0))), (fun w9 v => True), (fun w9 v => v = .int .i64 (j : Nat))] : List (World → Value → Prop)).getD i (fun _ _ => True) w9 v) (fun W => Below wr.heap.size wr W) 15 14 17 _ rfl (by kernel_rfl) (by decide) (by kernel_rfl) (fun w9 v => ∃ (b : Nat) (sp : Option Addr) (sn sc : Nat), v = .pointer (some ⟨b, 0, none⟩) ∧ wr.heap.size ≤ b ∧ w9.heap[b]? = some (.cells (ptC VN (tyN j) X.k (.slice sp sn sc) X.l X.r 0 0).toArray 48 (0, 0)) ∧ KT w9 w.heap.size isC (encC X) (cnC X.k (.slice sp sn sc) X.l X.r)) 323 rfl (by kernel_rfl) (fun W W' => Below W.heap.size W W') (fun W W' => ∃ b2, wr.heap.size ≤ b2 ∧ TB W 48 b2 ∧ Fr (fun i => i = b2) W W' ∧ ∃ cs : List Value, cs.length = 18 ∧ W'.heap[b2]? = some (.cells cs.toArray 48 (0, 0))) ?hmon ?hmonR ?hmonS (Below.drew (Below.refl _ _)) (zAC.cons ?o0 (zAC.cons ?o1 (zAC.cons ?o2 (zAC.cons ?o3 (zAC.cons ?o4 (zAC.cons ?o5 (zAC.cons ?o6 (zAC.cons ?o7 (zAC.cons ?o8 (zAC.cons ?o9 (zAC.cons ?o10 (zAC.cons ?o11 (zAC.cons ?o12 (zAC.cons ?o13 (zAC.cons ?o14 (zAC.cons ?o15 (zAC.cons ?o16 zAC.nil))))))))))))))))) ?hst ?hend
     case hmon =>
       intro q W W' v hb h
       rcases q with _ | _ | _ | _ | _ | _ | _ | _ | _ | _ | _ | _ | _ | _ | _ | _ | _ | q
       . obtain ⟨b, e, h1⟩ := h; exact ⟨b, e, (hb.block _ (zAD h1)).trans h1⟩
       . exact h
       . obtain ⟨b, e, h1⟩ := h; exact ⟨b, e, (hb.block _ (zAD h1)).trans h1⟩
       . exact h
       . exact h
       . exact h
       . exact h
       . exact h
       . exact h
       . exact h
       . obtain ⟨sp, sn, sc, e, h1⟩ := h; exact ⟨sp, sn, sc, e, h1.below hb⟩
       . obtain ⟨sp, sn, sc, e, h1⟩ := h; exact ⟨sp, sn, sc, e, h1.below hb⟩
       . obtain ⟨sp, sn, sc, e, h1⟩ := h; exact ⟨sp, sn, sc, e, h1.below hb⟩
       . exact h
       . obtain ⟨b, e, h1, cs, h2, h3⟩ := h; exact ⟨b, e, h1, cs, h2, (hb.block _ (zAD h3)).trans h3⟩
       . exact h
       . exact h
       . exact h
     case hmonR =>
       intro W W' v hb h
       obtain ⟨b, sp, sn, sc, e, h1, h2, h3⟩ := h
       exact ⟨b, sp, sn, sc, e, h1, (hb.block _ (zAD h2)).trans h2, h3.below hb⟩
     case hmonS =>
       intro q W W' v hks hb h
       rcases q with _ | _ | _ | _ | _ | _ | _ | _ | _ | _ | _ | _ | _ | _ | _ | _ | _ | q
       . obtain ⟨b, e, h1⟩ := h; obtain ⟨b2, q1, q2, q3, _⟩ := hb; exact ⟨b, e, (q3.block _ (zAD h1) (fun c9 => q2.ne ⟨_, h1⟩ (by decide) c9.symm)).trans h1⟩
       . exact h
       . obtain ⟨b, e, h1⟩ := h; obtain ⟨b2, q1, q2, q3, _⟩ := hb; exact ⟨b, e, (q3.block _ (zAD h1) (fun c9 => q2.ne ⟨_, h1⟩ (by decide) c9.symm)).trans h1⟩
       . exact h
       . exact h
       . exact h
       . exact h
       . exact h
       . exact h
       . exact h
       . obtain ⟨sp, sn, sc, e, h1⟩ := h; obtain ⟨b2, q1, q2, q3, _⟩ := hb; exact ⟨sp, sn, sc, e, h1.fr q3 q2 (by decide)⟩
       . obtain ⟨sp, sn, sc, e, h1⟩ := h; obtain ⟨b2, q1, q2, q3, _⟩ := hb; exact ⟨sp, sn, sc, e, h1.fr q3 q2 (by decide)⟩
       . obtain ⟨sp, sn, sc, e, h1⟩ := h; obtain ⟨b2, q1, q2, q3, _⟩ := hb; exact ⟨sp, sn, sc, e, h1.fr q3 q2 (by decide)⟩
       . exact h
       . obtain ⟨b, e, h1, cs, h2, h3⟩ := h; obtain ⟨b2, q1, q2, q3, cs2, q4, q5⟩ := hb; by_cases hbb : b = b2; (subst hbb; exact ⟨b, e, h1, cs2, q4, q5⟩); exact ⟨b, e, h1, cs, h2, (q3.block _ (zAD h3) hbb).trans h3⟩
       . exact h
       . exact h
       . exact h
     case o0 =>
       intro _ a W hB hd ho
       have hal : Below W.heap.size W (W.alloc (.cells #[.string ⟨#[112]⟩, .string ⟨#[113]⟩] 9)) := (Below.refl _ _).alloc (Nat.le_refl _) _
       refine zBT 84 2 _ rfl #[(0, .string ⟨#[112]⟩), (1, .string ⟨#[113]⟩)] (by simp [ev_c]) (.slice (some ⟨W.heap.size, 0, none⟩) 2 2) (W.alloc (.cells #[.string ⟨#[112]⟩, .string ⟨#[113]⟩] 9)) (by kernel_rfl) ⟨_, rfl, ⟨W.heap.size, rfl, heap_alloc_new _ _⟩, zAA hB hal hB.size, hal⟩
     case o1 =>
       intro _ a W hB hd ho
       have e16 : a.eval (.tmp 16) = .int .i64 (m : Nat) := ho 16 (by kernel_rfl)
       exact zA1 _ (by simp) _ e16 ⟨_, rfl, rfl, hB, Below.refl _ _⟩
     case o2 =>
       intro _ a W hB hd ho
       obtain ⟨b, e168, h1⟩ : ∃ (b : Nat), a.eval (.tmp 168) = .slice (some ⟨b, 0, none⟩) 2 2 ∧ W.heap[b]? = some (.cells #[.string ⟨#[112]⟩, .string ⟨#[113]⟩] 9 (0, 0)) := hd 0 168 (by kernel_rfl)
       have e169 : a.eval (.tmp 169) = .int .i64 (m : Nat) := hd 1 169 (by kernel_rfl)
       exact zAK (.pointer (some ⟨b, m, none⟩)) (by unfold execOp; simp only [ev_c, e168, e169]; go_simp) ⟨_, rfl, ⟨b, rfl, h1⟩, hB, Below.refl _ _⟩
     case o3 =>
       intro _ a W hB hd ho
       obtain ⟨b, e170, h1⟩ : ∃ (b : Nat), a.eval (.tmp 170) = .pointer (some ⟨b, m, none⟩) ∧ W.heap[b]? = some (.cells #[.string ⟨#[112]⟩, .string ⟨#[113]⟩] 9 (0, 0)) := hd 2 170 (by kernel_rfl)
       have c9 : W.cell? ⟨b, m, none⟩ = some (.string VN) := by
         rw [zAB h1]
         exact HVN.out
       exact zAK (.string VN) (by unfold execOp; simp only [ev_c, e170]; go_simp) ⟨_, rfl, rfl, hB, Below.refl _ _⟩
     case o4 =>
       intro _ a W hB hd ho
       have e3 : a.eval (.tmp 3) = .pointer (some ⟨w.heap.size, 0, none⟩) := ho 3 (by kernel_rfl)
       exact zAK (.pointer (some ⟨w.heap.size, 2, none⟩)) (by unfold execOp; simp only [ev_c, e3]; go_simp) ⟨_, rfl, rfl, hB, Below.refl _ _⟩
     case o5 =>
       intro _ a W hB hd ho
       have e172 : a.eval (.tmp 172) = .pointer (some ⟨w.heap.size, 2, none⟩) := hd 4 172 (by kernel_rfl)
       have c9 : W.cell? ⟨w.heap.size, 2, none⟩ = some (.slice (some ⟨g, off, none⟩) L2 c2) := by
         rw [zAB ((HRB.out.below hB).pb)]
         rfl
       exact zAK (.slice (some ⟨g, off, none⟩) L2 c2) (by unfold execOp; simp only [ev_c, e172]; go_simp) ⟨_, rfl, rfl, hB, Below.refl _ _⟩
     case o6 =>
       intro _ a W hB hd ho
       have e16 : a.eval (.tmp 16) = .int .i64 (m : Nat) := ho 16 (by kernel_rfl)
       exact zA1 _ (by simp) _ e16 ⟨_, rfl, rfl, hB, Below.refl _ _⟩
     case o7 =>
       intro _ a W hB hd ho
       have e173 : a.eval (.tmp 173) = .slice (some ⟨g, off, none⟩) L2 c2 := hd 5 173 (by kernel_rfl)
       have e174 : a.eval (.tmp 174) = .int .i64 (m : Nat) := hd 6 174 (by kernel_rfl)
       exact zAK (.pointer (some ⟨g, off + m * 5, none⟩)) (by unfold execOp; simp only [ev_c, e173, e174]; go_simp) ⟨_, rfl, rfl, hB, Below.refl _ _⟩
     case o8 =>
       intro _ a W hB hd ho
       have e175 : a.eval (.tmp 175) = .pointer (some ⟨g, off + m * 5, none⟩) := hd 7 175 (by kernel_rfl)
       exact zBZ 117 _ rfl g (off + m * 5) e175 [.int .i64 c.ty, .int .i64 c.co, .int .i64 c.n, .int .i64 c.wi, .int .i64 c.si] _ (XCS.out W (zAA HRB.out.bel hB HRB.out.bel.size)) Tryz.underlying117 rfl (by kernel_rfl) ⟨_, rfl, rfl, hB, Below.refl _ _⟩
     case o9 =>
       intro _ a W hB hd ho
       have e6 : a.eval (.tmp 6) = (.slice np kl nc) := ho 6 (by kernel_rfl)
       exact zA1 _ (by simp) _ e6 ⟨_, rfl, rfl, hB, Below.refl _ _⟩
     case o10 =>
       intro _ a W hB hd ho
       have e171 : a.eval (.tmp 171) = .string VN := hd 3 171 (by kernel_rfl)
       have e176 : a.eval (.tmp 176) = .agg #[.int .i64 c.ty, .int .i64 c.co, .int .i64 c.n, .int .i64 c.wi, .int .i64 c.si] := hd 8 176 (by kernel_rfl)
       have e177 : a.eval (.tmp 177) = (.slice np kl nc) := hd 9 177 (by kernel_rfl)
       refine zA0 38 zG3 _ _ rfl #[.string VN, .agg #[.int .i64 c.ty, .int .i64 c.co, .int .i64 c.n, .int .i64 c.wi, .int .i64 c.si], (.slice np kl nc)] (by simp [e171, e176, e177]) _ (HPAT.out W hB) ?_
       rintro e W' ⟨sp, sn, sc, rfl, hkt, hal⟩
       exact ⟨_, rfl, _, rfl, ⟨sp, sn, sc, rfl, hkt.low (Nat.le_trans HRB.out.bel.size hB.size)⟩, zAA hB hal hB.size, hal⟩
     case o11 =>
       intro _ a W hB hd ho
       obtain ⟨sp, sn, sc, e9, hkt⟩ : ∃ (sp : Option Addr) (sn sc : Nat), a.eval (.tmp 178) = .tuple #[ptV VN (tyN j) X.k (.slice sp sn sc) X.l X.r 0 0, .int .i64 (j : Nat)] ∧ KT W w.heap.size isC (encC X) (cnC X.k (.slice sp sn sc) X.l X.r) := hd 10 178 (by kernel_rfl)
       exact zA1 _ (by simp) _ e9 ⟨_, rfl, ⟨sp, sn, sc, rfl, hkt⟩, hB, Below.refl _ _⟩
     case o12 =>
       intro _ a W hB hd ho
       obtain ⟨sp, sn, sc, e9, hkt⟩ : ∃ (sp : Option Addr) (sn sc : Nat), a.eval (.tmp 167) = .tuple #[ptV VN (tyN j) X.k (.slice sp sn sc) X.l X.r 0 0, .int .i64 (j : Nat)] ∧ KT W w.heap.size isC (encC X) (cnC X.k (.slice sp sn sc) X.l X.r) := hd 11 167 (by kernel_rfl)
       exact zAK (ptV VN (tyN j) X.k (.slice sp sn sc) X.l X.r 0 0) (by unfold execOp; simp only [e9]; go_simp) ⟨_, rfl, ⟨sp, sn, sc, rfl, hkt⟩, hB, Below.refl _ _⟩
     case o13 =>
       intro _ a W hB hd ho
       obtain ⟨sp, sn, sc, e9, hkt⟩ : ∃ (sp : Option Addr) (sn sc : Nat), a.eval (.tmp 167) = .tuple #[ptV VN (tyN j) X.k (.slice sp sn sc) X.l X.r 0 0, .int .i64 (j : Nat)] ∧ KT W w.heap.size isC (encC X) (cnC X.k (.slice sp sn sc) X.l X.r) := hd 11 167 (by kernel_rfl)
       exact zAK (.int .i64 (j : Nat)) (by unfold execOp; simp only [e9]; go_simp) ⟨_, rfl, rfl, hB, Below.refl _ _⟩
     case o14 =>
       intro _ a W hB hd ho
       have hal : Below W.heap.size W (W.alloc (.cells pt0.toArray 48)) := (Below.refl _ _).alloc (Nat.le_refl _) _
       exact zFQ 48 rfl (pt0) (by kernel_rfl) ⟨_, rfl, ⟨W.heap.size, rfl, hB.size, _, rfl, heap_alloc_new _ _⟩, zAA hB hal hB.size, hal⟩
     case o15 =>
       intro h9; exact absurd rfl h9
     case o16 =>
       intro _ a W hB hd ho
       have e180 : a.eval (.tmp 180) = .int .i64 (j : Nat) := hd 13 180 (by kernel_rfl)
       exact zA1 _ (by simp) _ e180 ⟨_, rfl, rfl, hB, Below.refl _ _⟩
     case hst =>
       intro a W hB hd ho
       obtain ⟨sp, sn, sc, e8, hkt⟩ : ∃ (sp : Option Addr) (sn sc : Nat), a.eval (.tmp 179) = ptV VN (tyN j) X.k (.slice sp sn sc) X.l X.r 0 0 ∧ KT W w.heap.size isC (encC X) (cnC X.k (.slice sp sn sc) X.l X.r) := hd 12 179 (by kernel_rfl)
       obtain ⟨b, e10, hb1, cs, hcs, hblk⟩ : ∃ (b : Nat), a.eval (.tmp 17) = .pointer (some ⟨b, 0, none⟩) ∧ wr.heap.size ≤ b ∧ ∃ cs : List Value, cs.length = 18 ∧ W.heap[b]? = some (.cells cs.toArray 48 (0, 0)) := hd 14 17 (by kernel_rfl)
       refine op_st 48 _ _ rfl b 0 cs 48 (ptV VN (tyN j) X.k (.slice sp sn sc) X.l X.r 0 0) (ptC VN (tyN j) X.k (.slice sp sn sc) X.l X.r 0 0) e10 e8 (by rfl) hblk (by rw [hcs]; simp) (by kernel_rfl) (by rfl) ?_
       intro w5 h5 hf5
       have h5' : w5.heap[b]? = some (.cells (ptC VN (tyN j) X.k (.slice sp sn sc) X.l X.r 0 0).toArray 48 (0, 0)) := by rw [h5, zGC cs _ (by rw [hcs]; rfl)]
       exact ⟨undef, rfl, trivial, zAG hB hf5 hb1, ⟨b, hb1, ⟨_, hblk⟩, hf5, _, rfl, h5'⟩, ⟨b, sp, sn, sc, e10, hb1, h5', hkt.fr hf5 ⟨_, hblk⟩ (by decide)⟩⟩
     case hend =>
       intro vs W hB hT hR
       obtain ⟨b, sp, sn, sc, ew, hb1, hblk, hkt⟩ := hR
       have ea : vs 16 = .int .i64 (j : Nat) := hT 16 (by decide)
       simp only [List.toList_toArray, List.take_succ_cons, List.take_zero, fill, if_true, Act.put, List.setIfInBounds_toArray, List.set_cons_zero, List.set_cons_succ, ew, ea]
       generalize vs 0 = v0
       generalize vs 1 = v1
       generalize vs 2 = v2
       generalize vs 3 = v3
       generalize vs 4 = v4
       generalize vs 5 = v5
       generalize vs 6 = v6
       generalize vs 7 = v7
       generalize vs 8 = v8
       generalize vs 9 = v9
       generalize vs 10 = v10
       generalize vs 11 = v11
       generalize vs 12 = v12
       generalize vs 13 = v13
       clear hT ew ea vs
       have HBW := hid hB
       have HB1 := hid hb1
       have HBK := hid hblk
       have HRC := hid (HR.out.below hB)
       have HKP := hid hkt
       have q1 : W.cell? ⟨w.heap.size, 2, none⟩ = some (.slice (some ⟨g, off, none⟩) L2 c2) := by rw [zAB HRC.out.pb]; rfl
       have q2' : W.cell? ⟨g, off + m * 5 + 4, none⟩ = some (.int .i64 c.si) := XCS.out W HRC.out.bel 4 _ rfl
       clear hB hb1 hblk hkt
       go_upto_region 34 with (first
         | (go_at_call 9; refine (HP20.out _).mono ?_; rintro e _ ⟨rfl, rfl⟩)
         | ((with_reducible show wpList _ _ _ (Oper.mk _ (.store 3 _ _) _ _ _ _ :: _) _ _); refine zAT 3 b 17 (ptC VN (tyN j) X.k (.slice sp sn sc) X.l X.r 1 0) 48 (.int .i64 s20) [.int .i64 s20] HBK6.out ?_; intro w7 hq1 hq2; have HBK7 : Hid (w7.heap[b]? = some (.cells (ptC VN (tyN j) X.k (.slice sp sn sc) X.l X.r 1 s20).toArray 48 (0, 0))) := hq1; have HKP7 := hid (HKP6.out.fr hq2 ⟨_, HBK6.out⟩ (by decide)); have HBW7 := hid (zAG HBW6.out hq2 HB1.out); clear hq1 hq2)
         | ((with_reducible show wpList _ _ _ (Oper.mk _ (.store 3 _ _) _ _ _ _ :: _) _ _); refine zAT 3 b 16 (ptC VN (tyN j) X.k (.slice sp sn sc) X.l X.r 0 0) 48 (.int .i64 1) [.int .i64 1] HBK.out ?_; intro w6 hq1 hq2; have HBK6 : Hid (w6.heap[b]? = some (.cells (ptC VN (tyN j) X.k (.slice sp sn sc) X.l X.r 1 0).toArray 48 (0, 0))) := hq1; have HKP6 := hid (HKP.out.fr hq2 ⟨_, HBK.out⟩ (by decide)); have HBW6 := hid (zAG HBW.out hq2 HB1.out); have q3' : w6.cell? ⟨w.heap.size, 2, none⟩ = some (.slice (some ⟨g, off, none⟩) L2 c2) := (by rw [zAB ((HR.out.below HBW6.out).pb)]; rfl); have q4' : w6.cell? ⟨g, off + m * 5 + 4, none⟩ = some (.int .i64 c.si) := XCS.out w6 ((HR.out.below HBW6.out).bel) 4 _ rfl; clear hq1 hq2))
       have HRF := hid (HR.out.below HBW7.out)
       clear HBK HBK6 HKP HKP6 HRC HBW HBW6 q1 q2' q3' q4'
       have HKP := HKP7
       clear HKP7
       refine zBI (by kernel_rfl) (fun i w9 v => ([(fun w9 v => v = .pointer (some ⟨w.heap.size, 2, none⟩)), (fun w9 v => v = (.slice (some ⟨g, off, none⟩) L2 c2)), (fun w9 v => v = .int .i64 (m : Nat)), (fun w9 v => v = .pointer (some ⟨g, off + m * 5, none⟩)), (fun w9 v => v = .pointer (some ⟨g, off + m * 5 + 2, none⟩)), (fun w9 v => v = .int .i64 c.n), (fun w9 v => v = .int .i64 q3), (fun w9 v => v = .int .i64 (1 + q3)), (fun w9 v => v = (ptV VN (tyN j) X.k (.slice sp sn sc) X.l X.r 1 s20)), (fun w9 v => v = (mnV (1 + q3) (txt []) VN (tyN j) X.k (.slice sp sn sc) X.l X.r 1 s20)), (fun w9 v => ∃ (b19 : Nat), v = .pointer (some ⟨b19, 0, none⟩) ∧ w9.heap[b19]? = some (.cells mn0.toArray 78 (0, 0)) ∧ w7.heap.size ≤ b19)] : List (World → Value → Prop)).getD i (fun _ _ => True) w9 v) (fun W => Below w7.heap.size w7 W) 323 11 rfl rfl [some 190, some 191, some 192, some 193, some 194, some 195, some 196, some 197, some 198, some 199, some 19] (by kernel_rfl) 78 (.tmp 19) (.tmp 199) (by rfl) (by rfl) (by kernel_rfl) (by kernel_rfl) (fun W W' => Below W.heap.size W W') ?hmon (Below.drew (Below.refl _ _)) (zAC.cons ?o0 (zAC.cons ?o1 (zAC.cons ?o2 (zAC.cons ?o3 (zAC.cons ?o4 (zAC.cons ?o5 (zAC.cons ?o6 (zAC.cons ?o7 (zAC.cons ?o8 (zAC.cons ?o9 (zAC.cons ?o10 zAC.nil))))))))))) ?hend
       case hmon =>
         intro q W W' v hb h
         rcases q with _ | _ | _ | _ | _ | _ | _ | _ | _ | _ | _ | q
         . exact h
         . exact h
         . exact h
         . exact h
         . exact h
         . exact h
         . exact h
         . exact h
         . exact h
         . exact h
         . obtain ⟨b19, e, h1, h2⟩ := h; exact ⟨b19, e, (hb.block _ (zAD h1)).trans h1, h2⟩
         . exact h
       case o0 =>
         intro a W hB hd ho
         have e3 : a.eval (.tmp 3) = .pointer (some ⟨w.heap.size, 0, none⟩) := ho 3 (by kernel_rfl)
         exact zAK (.pointer (some ⟨w.heap.size, 2, none⟩)) (by unfold execOp; simp only [ev_c, e3]; go_simp) ⟨_, rfl, rfl, hB, Below.refl _ _⟩
       case o1 =>
         intro a W hB hd ho
         have e190 : a.eval (.tmp 190) = .pointer (some ⟨w.heap.size, 2, none⟩) := hd 0 190 (by kernel_rfl)
         have c9 : W.cell? ⟨w.heap.size, 2, none⟩ = some (.slice (some ⟨g, off, none⟩) L2 c2) := by
           rw [zAB ((HRF.out.below hB).pb)]
           rfl
         exact zAK ((.slice (some ⟨g, off, none⟩) L2 c2)) (by unfold execOp; simp only [ev_c, e190]; go_simp) ⟨_, rfl, rfl, hB, Below.refl _ _⟩
       case o2 =>
         intro a W hB hd ho
         have e16 : a.eval (.tmp 16) = .int .i64 (m : Nat) := ho 16 (by kernel_rfl)
         exact zA1 _ (by simp) _ e16 ⟨_, rfl, rfl, hB, Below.refl _ _⟩
       case o3 =>
         intro a W hB hd ho
         have e191 : a.eval (.tmp 191) = (.slice (some ⟨g, off, none⟩) L2 c2) := hd 1 191 (by kernel_rfl)
         have e192 : a.eval (.tmp 192) = .int .i64 (m : Nat) := hd 2 192 (by kernel_rfl)
         exact zAK (.pointer (some ⟨g, off + m * 5, none⟩)) (by unfold execOp; simp only [ev_c, e191, e192]; go_simp) ⟨_, rfl, rfl, hB, Below.refl _ _⟩
       case o4 =>
         intro a W hB hd ho
         have e193 : a.eval (.tmp 193) = .pointer (some ⟨g, off + m * 5, none⟩) := hd 3 193 (by kernel_rfl)
         exact zAK (.pointer (some ⟨g, off + m * 5 + 2, none⟩)) (by unfold execOp; simp only [ev_c, e193]; go_simp) ⟨_, rfl, rfl, hB, Below.refl _ _⟩
       case o5 =>
         intro a W hB hd ho
         have e194 : a.eval (.tmp 194) = .pointer (some ⟨g, off + m * 5 + 2, none⟩) := hd 4 194 (by kernel_rfl)
         have c9 : W.cell? ⟨g, off + m * 5 + 2, none⟩ = some (.int .i64 c.n) := XCS.out W ((HRF.out.below hB).bel) 2 _ rfl
         exact zAK (.int .i64 c.n) (by unfold execOp; simp only [ev_c, e194]; go_simp) ⟨_, rfl, rfl, hB, Below.refl _ _⟩
       case o6 =>
         intro a W hB hd ho
         have e195 : a.eval (.tmp 195) = .int .i64 c.n := hd 5 195 (by kernel_rfl)
         refine zA0 9 zHA _ _ rfl #[.int .i64 c.n, .int .i64 3] (by simp [ev_c, e195]) _ (HP3.out W) ?_
         rintro e W' ⟨rfl, rfl⟩
         exact ⟨_, rfl, _, rfl, rfl, hB, Below.refl _ _⟩
       case o7 =>
         intro a W hB hd ho
         have e196 : a.eval (.tmp 196) = .int .i64 q3 := hd 6 196 (by kernel_rfl)
         exact zAK (.int .i64 (1 + q3)) (by unfold execOp; simp only [ev_c, e196]; go_simp) ⟨_, rfl, rfl, hB, Below.refl _ _⟩
       case o8 =>
         intro a W hB hd ho
         have e17 : a.eval (.tmp 17) = .pointer (some ⟨b, 0, none⟩) := ho 17 (by kernel_rfl)
         exact zBZ 48 _ rfl b 0 e17 (ptC VN (tyN j) X.k (.slice sp sn sc) X.l X.r 1 s20) _ (zAJ ((hB.block _ (zAD HBK7.out)).trans HBK7.out)) Tryz.underlying48 rfl (by kernel_rfl) ⟨_, rfl, rfl, hB, Below.refl _ _⟩
       case o9 =>
         intro a W hB hd ho
         have e197 : a.eval (.tmp 197) = .int .i64 (1 + q3) := hd 7 197 (by kernel_rfl)
         have e198 : a.eval (.tmp 198) = (ptV VN (tyN j) X.k (.slice sp sn sc) X.l X.r 1 s20) := hd 8 198 (by kernel_rfl)
         exact zCC 78 _ rfl #[(0, .int .i64 (1 + q3)), (2, (ptV VN (tyN j) X.k (.slice sp sn sc) X.l X.r 1 s20))] (by simp [ev_c, e197, e198]) ((mnV (1 + q3) (txt []) VN (tyN j) X.k (.slice sp sn sc) X.l X.r 1 s20)) (by kernel_rfl) ⟨_, rfl, rfl, hB, Below.refl _ _⟩
       case o10 =>
         intro a W hB hd ho
         have hal : Below W.heap.size W (W.alloc (.cells mn0.toArray 78)) := (Below.refl _ _).alloc (Nat.le_refl _) _
         exact zFQ 78 rfl (mn0) (by kernel_rfl) ⟨_, rfl, ⟨W.heap.size, rfl, heap_alloc_new _ _, hB.size⟩, zAA hB hal hB.size, hal⟩
       case hend =>
         intro vs W hB hT
         obtain ⟨b19, e10, h1, h2⟩ : ∃ (b19 : Nat), vs 10 = .pointer (some ⟨b19, 0, none⟩) ∧ W.heap[b19]? = some (.cells mn0.toArray 78 (0, 0)) ∧ w7.heap.size ≤ b19 := hT 10 (by decide)
         have e9 : vs 9 = (mnV (1 + q3) (txt []) VN (tyN j) X.k (.slice sp sn sc) X.l X.r 1 s20) := hT 9 (by decide)
         refine ⟨b19, 0, mn0, 78, (mnV (1 + q3) (txt []) VN (tyN j) X.k (.slice sp sn sc) X.l X.r 1 s20), (mnC (1 + q3) (txt []) VN (tyN j) X.k (.slice sp sn sc) X.l X.r 1 s20), Eq.trans (b := vs 10) (by kernel_rfl) e10, Eq.trans (b := vs 9) (by kernel_rfl) e9, rfl, h1, by simp [mn0], by kernel_rfl, rfl, ?_⟩
         intro w8 hq1 hq2
         have HB78 := hid hB
         have HB19 := hid h2
         have HBK : Hid (w8.heap[b19]? = some (.cells (mnC (1 + q3) (txt []) VN (tyN j) X.k (.slice sp sn sc) X.l X.r 1 s20).toArray 78 (0, 0))) := hq1
         have hbl := zAG hB hq2 h2
         have HB78' := hid hbl
         have HRC := hid (HRF.out.below hbl)
         have HKPb := hid ((HKP.out.below hB).fr hq2 ⟨_, h1⟩ (by decide))
         clear HKP HB78
         have HKP := HKPb
         have HB78 := HB78'
         clear HKPb HB78' hbl
         have q6 : w8.cell? ⟨w.heap.size, 2, none⟩ = some (.slice (some ⟨g, off, none⟩) L2 c2) := by rw [zAB HRC.out.pb]; rfl
         have q7 : w8.cell? ⟨g, off + m * 5 + 3, none⟩ = some (.int .i64 c.wi) := XCS.out w8 HRC.out.bel 3 _ rfl
         clear hq1 hq2 h1 h2 hB hT
         simp only [zB0, Act.put, List.setIfInBounds_toArray, e9, e10]
         simp only [zBJ]
         simp only [List.set_cons_zero, List.set_cons_succ]
         clear e9 e10
         generalize vs 0 = v0
         generalize vs 1 = v1
         generalize vs 2 = v2
         generalize vs 3 = v3
         generalize vs 4 = v4
         generalize vs 5 = v5
         generalize vs 6 = v6
         generalize vs 7 = v7
         generalize vs 8 = v8
         clear vs
         have HLM1 : Hid (((pwMs p.m (pwK p.w N) m).map encM).length ≤ 10) := by show _ ≤ 10; rw [List.length_map, zDN]; omega
         have HLM2 : Hid (((pwMs p.m (pwK p.w N) m).map encM).length + 1 = m + 1) := by show _ + 1 = _; rw [List.length_map, zDN]
         by_cases hj2 : j = 2
         . have g1 : ((j : Int) != 2) = false := by simp; omega
           have g2 : (j = 2) = True := by simp [hj2]
           have HEF : Hid (pwMs p.m (pwK p.w N) (m + 1) = pwMs p.m (pwK p.w N) m ++ [⟨1 + q3, (txt []), ⟨VN, tyN j, X, 1, s20⟩⟩]) := by show _ = _; rw [pwMs]; unfold pwM pwP; rw [hcc, HJX.out.1, HJX.out.2.1, HJX.out.2.2, HQS.out.1, HQS.out.2, if_pos hj2]
           clear hj2
           have HKM := hid (show KT _ w.heap.size isC (encM ⟨1 + q3, (txt []), ⟨VN, tyN j, X, 1, s20⟩⟩) (mnC (1 + q3) (txt []) VN (tyN j) X.k (.slice sp sn sc) X.l X.r 1 s20) from KT.cons _ (KT.cons _ (HKP.out.pat VN (tyN j) 1 s20)))
           have q8 : w8.cell? ⟨w.heap.size + 2, 3, none⟩ = some (.slice mp m mc) := by rw [zAB HRC.out.ub]; rfl
           go_wp2_with (first
             | (go_at_call 9; refine (HP2.out _).mono ?_; rintro e _ ⟨rfl, rfl⟩)
             | ((with_reducible show wpList _ _ _ (Oper.mk (some 215) _ _ _ _ _ :: _) _ _); refine wpList_load_mid (by rfl) 78 _ (by rfl) b19 0 (by rfl) (mnC (1 + q3) (txt []) VN (tyN j) X.k (.slice sp sn sc) X.l X.r 1 s20) _ (zAJ HBK.out) Tryz.underlying78 rfl (by kernel_rfl) ?_)
             | ((with_reducible show wpList _ _ _ (Oper.mk (some 216) _ _ _ _ _ :: _) _ _); refine zCQ (by rfl) 50 1 _ (by rfl) #[(0, (mnV (1 + q3) (txt []) VN (tyN j) X.k (.slice sp sn sc) X.l X.r 1 s20))] (by simp [Act.eval, Act.put]) (mnC (1 + q3) (txt []) VN (tyN j) X.k (.slice sp sn sc) X.l X.r 1 s20) 78 (fun w => by kernel_rfl) ?_; intro b2 w2 hq1 hq2; have HB2 := hid hq1; have HRD := hid (HRC.out.below hq2); have HKD := hid (HKM.out.below hq2); have HBK2 : Hid (w2.heap[b19]? = some (.cells (mnC (1 + q3) (txt []) VN (tyN j) X.k (.slice sp sn sc) X.l X.r 1 s20).toArray 78 (0, 0))) := (hq2.block _ (zAD HBK.out)).trans HBK.out; have HBB2 := hid hq2; clear hq1 hq2)
             | ((with_reducible show wpList _ _ _ (Oper.mk (some 217) _ _ _ _ _ :: _) _ _); refine zB1 (by rfl) _ _ 50 (by rfl) w.heap.size isC 78 20 248 im _ Tryz.underlying50 HIM.out.1 HIM.out.2.1 HIM.out.2.2.1 HIM.out.2.2.2 rfl (by omega) (by decide) (.slice mp m mc) ((pwMs p.m (pwK p.w N) m).map encM) (by rfl) HRD.out.r3 HRD.out.bel.size b2 (mnC (1 + q3) (txt []) VN (tyN j) X.k (.slice sp sn sc) X.l X.r 1 s20) (by rfl) HB2.out (by rfl) (by rfl) (encM ⟨1 + q3, (txt []), ⟨VN, tyN j, X, 1, s20⟩⟩) HKD.out (by decide) HLM1.out (m + 1) HLM2.out ?_; intro mp5 mc5 w5 hq1 hq2 hq3; have HR5 := hid hq1; have HG5 := hid hq2; have HO5 := hid hq3; clear hq1 hq2 hq3)
             | ((with_reducible show wpList _ _ _ (Oper.mk _ (.store 50 _ _) _ _ _ _ :: _) _ _); refine zAT 50 (w.heap.size + 2) 3 [.string nm, (.slice wp N wcp), (.slice tp M1 tc), (.slice mp m mc), (.slice kp M1 kc), .string ⟨#[]⟩, .slice none 0 0] 56 (.slice mp5 (m + 1) mc5) [.slice mp5 (m + 1) mc5] (HRD.out.ub_mv HG5.out) ?_; intro w6 hq1 hq2; have HRE : Hid (Ru w w6 [.slice p0 L0 c0, .slice p1 L1 c1, .slice (some ⟨g, off, none⟩) L2 c2, .slice p3 L3 c3, .int .i64 p.e] (⟨nm, pwWs p.w N, pwTs p.t (pwK p.w N) M1, pwMs p.m (pwK p.w N) m ++ [⟨1 + q3, (txt []), ⟨VN, tyN j, X, 1, s20⟩⟩], pwUs p.t (alN N) M1, ⟨txt [], []⟩⟩ : Rl) (pwK p.w N) (alN N) (.slice wp N wcp) (.slice tp M1 tc) (.slice mp5 (m + 1) mc5) (.slice kp M1 kc) (.slice np kl nc) (.slice ap N ac)) := HRD.out.app_mv HG5.out HO5.out HR5.out hq1 hq2; clear hq1 hq2))
           go_roundg (M2 + 1 - (m + 1))
           case rel =>
             refine ⟨m + 1, mp5, mc5, HLT.out, rfl, by go_num, ?_⟩
             rw [HEF.out]
             exact HRE.out
           case measure => omega
         . have g1 : ((j : Int) != 2) = true := by simp; omega
           have g2 : (j = 2) = False := by simp [hj2]
           by_cases hq2 : q2 = 1
           . have g3 : (q2 == 1) = true := by simp; omega
             have HEF : Hid (pwMs p.m (pwK p.w N) (m + 1) = pwMs p.m (pwK p.w N) m ++ [⟨1 + q3, (txt [110]), ⟨VN, tyN j, X, 1, s20⟩⟩]) := by show _ = _; rw [pwMs]; unfold pwM pwP; rw [hcc, HJX.out.1, HJX.out.2.1, HJX.out.2.2, HQS.out.1, HQS.out.2, if_neg hj2, HQ2.out, if_pos hq2]
             clear hj2 hq2
             go_wp2_with (first
              | (go_at_call 9; refine (HP2.out _).mono ?_; rintro e _ ⟨rfl, rfl⟩)
              | ((with_reducible show wpList _ _ _ (Oper.mk _ (.store 9 _ _) _ _ _ _ :: _) _ _); refine zAT 9 b19 1 (mnC (1 + q3) (txt []) VN (tyN j) X.k (.slice sp sn sc) X.l X.r 1 s20) 78 (.string ⟨#[110]⟩) [.string ⟨#[110]⟩] HBK.out ?_; intro w9 hq1 hq2; have HBKb : Hid (w9.heap[b19]? = some (.cells (mnC (1 + q3) (txt [110]) VN (tyN j) X.k (.slice sp sn sc) X.l X.r 1 s20).toArray 78 (0, 0))) := hq1; have HRCb : Hid (Ru w w9 [.slice p0 L0 c0, .slice p1 L1 c1, .slice (some ⟨g, off, none⟩) L2 c2, .slice p3 L3 c3, .int .i64 p.e] (⟨nm, pwWs p.w N, pwTs p.t (pwK p.w N) M1, pwMs p.m (pwK p.w N) m, pwUs p.t (alN N) M1, ⟨txt [], []⟩⟩ : Rl) (pwK p.w N) (alN N) (.slice wp N wcp) (.slice tp M1 tc) (.slice mp m mc) (.slice kp M1 kc) (.slice np kl nc) (.slice ap N ac)) := HRF.out.below (zAG HB78.out hq2 HB19.out); have HKPb := hid (HKP.out.fr hq2 ⟨_, HBK.out⟩ (by decide)); clear HBK HRC HKP; have HBK := HBKb; have HRC := HRCb; have HKP := HKPb; have HKM := hid (show KT w9 w.heap.size isC (encM ⟨1 + q3, (txt [110]), ⟨VN, tyN j, X, 1, s20⟩⟩) (mnC (1 + q3) (txt [110]) VN (tyN j) X.k (.slice sp sn sc) X.l X.r 1 s20) from KT.cons _ (KT.cons _ (HKP.out.pat VN (tyN j) 1 s20))); have q8 : w9.cell? ⟨w.heap.size + 2, 3, none⟩ = some (.slice mp m mc) := (by rw [zAB HRC.out.ub]; rfl); clear HBKb HRCb HKPb hq1 hq2)
              | ((with_reducible show wpList _ _ _ (Oper.mk (some 215) _ _ _ _ _ :: _) _ _); refine wpList_load_mid (by rfl) 78 _ (by rfl) b19 0 (by rfl) (mnC (1 + q3) (txt [110]) VN (tyN j) X.k (.slice sp sn sc) X.l X.r 1 s20) _ (zAJ HBK.out) Tryz.underlying78 rfl (by kernel_rfl) ?_)
              | ((with_reducible show wpList _ _ _ (Oper.mk (some 216) _ _ _ _ _ :: _) _ _); refine zCQ (by rfl) 50 1 _ (by rfl) #[(0, (mnV (1 + q3) (txt [110]) VN (tyN j) X.k (.slice sp sn sc) X.l X.r 1 s20))] (by simp [Act.eval, Act.put]) (mnC (1 + q3) (txt [110]) VN (tyN j) X.k (.slice sp sn sc) X.l X.r 1 s20) 78 (fun w => by kernel_rfl) ?_; intro b2 w2 hq1 hq2; have HB2 := hid hq1; have HRD := hid (HRC.out.below hq2); have HKD := hid (HKM.out.below hq2); have HBK2 : Hid (w2.heap[b19]? = some (.cells (mnC (1 + q3) (txt [110]) VN (tyN j) X.k (.slice sp sn sc) X.l X.r 1 s20).toArray 78 (0, 0))) := (hq2.block _ (zAD HBK.out)).trans HBK.out; have HBB2 := hid hq2; clear hq1 hq2)
              | ((with_reducible show wpList _ _ _ (Oper.mk (some 217) _ _ _ _ _ :: _) _ _); refine zB1 (by rfl) _ _ 50 (by rfl) w.heap.size isC 78 20 248 im _ Tryz.underlying50 HIM.out.1 HIM.out.2.1 HIM.out.2.2.1 HIM.out.2.2.2 rfl (by omega) (by decide) (.slice mp m mc) ((pwMs p.m (pwK p.w N) m).map encM) (by rfl) HRD.out.r3 HRD.out.bel.size b2 (mnC (1 + q3) (txt [110]) VN (tyN j) X.k (.slice sp sn sc) X.l X.r 1 s20) (by rfl) HB2.out (by rfl) (by rfl) (encM ⟨1 + q3, (txt [110]), ⟨VN, tyN j, X, 1, s20⟩⟩) HKD.out (by decide) HLM1.out (m + 1) HLM2.out ?_; intro mp5 mc5 w5 hq1 hq2 hq3; have HR5 := hid hq1; have HG5 := hid hq2; have HO5 := hid hq3; clear hq1 hq2 hq3)
              | ((with_reducible show wpList _ _ _ (Oper.mk _ (.store 50 _ _) _ _ _ _ :: _) _ _); refine zAT 50 (w.heap.size + 2) 3 [.string nm, (.slice wp N wcp), (.slice tp M1 tc), (.slice mp m mc), (.slice kp M1 kc), .string ⟨#[]⟩, .slice none 0 0] 56 (.slice mp5 (m + 1) mc5) [.slice mp5 (m + 1) mc5] (HRD.out.ub_mv HG5.out) ?_; intro w6 hq1 hq2; have HRE : Hid (Ru w w6 [.slice p0 L0 c0, .slice p1 L1 c1, .slice (some ⟨g, off, none⟩) L2 c2, .slice p3 L3 c3, .int .i64 p.e] (⟨nm, pwWs p.w N, pwTs p.t (pwK p.w N) M1, pwMs p.m (pwK p.w N) m ++ [⟨1 + q3, (txt [110]), ⟨VN, tyN j, X, 1, s20⟩⟩], pwUs p.t (alN N) M1, ⟨txt [], []⟩⟩ : Rl) (pwK p.w N) (alN N) (.slice wp N wcp) (.slice tp M1 tc) (.slice mp5 (m + 1) mc5) (.slice kp M1 kc) (.slice np kl nc) (.slice ap N ac)) := HRD.out.app_mv HG5.out HO5.out HR5.out hq1 hq2; clear hq1 hq2))
             go_roundg (M2 + 1 - (m + 1))
             case rel =>
              refine ⟨m + 1, mp5, mc5, HLT.out, rfl, by go_num, ?_⟩
              rw [HEF.out]
              exact HRE.out
             case measure => omega
           . have g3 : (q2 == 1) = false := by simp; omega
             have HEF : Hid (pwMs p.m (pwK p.w N) (m + 1) = pwMs p.m (pwK p.w N) m ++ [⟨1 + q3, (txt []), ⟨VN, tyN j, X, 1, s20⟩⟩]) := by show _ = _; rw [pwMs]; unfold pwM pwP; rw [hcc, HJX.out.1, HJX.out.2.1, HJX.out.2.2, HQS.out.1, HQS.out.2, if_neg hj2, HQ2.out, if_neg hq2]
             clear hj2 hq2
             have HKM := hid (show KT _ w.heap.size isC (encM ⟨1 + q3, (txt []), ⟨VN, tyN j, X, 1, s20⟩⟩) (mnC (1 + q3) (txt []) VN (tyN j) X.k (.slice sp sn sc) X.l X.r 1 s20) from KT.cons _ (KT.cons _ (HKP.out.pat VN (tyN j) 1 s20)))
             have q8 : w8.cell? ⟨w.heap.size + 2, 3, none⟩ = some (.slice mp m mc) := by rw [zAB HRC.out.ub]; rfl
             go_wp2_with (first
              | (go_at_call 9; refine (HP2.out _).mono ?_; rintro e _ ⟨rfl, rfl⟩)
              | ((with_reducible show wpList _ _ _ (Oper.mk (some 215) _ _ _ _ _ :: _) _ _); refine wpList_load_mid (by rfl) 78 _ (by rfl) b19 0 (by rfl) (mnC (1 + q3) (txt []) VN (tyN j) X.k (.slice sp sn sc) X.l X.r 1 s20) _ (zAJ HBK.out) Tryz.underlying78 rfl (by kernel_rfl) ?_)
              | ((with_reducible show wpList _ _ _ (Oper.mk (some 216) _ _ _ _ _ :: _) _ _); refine zCQ (by rfl) 50 1 _ (by rfl) #[(0, (mnV (1 + q3) (txt []) VN (tyN j) X.k (.slice sp sn sc) X.l X.r 1 s20))] (by simp [Act.eval, Act.put]) (mnC (1 + q3) (txt []) VN (tyN j) X.k (.slice sp sn sc) X.l X.r 1 s20) 78 (fun w => by kernel_rfl) ?_; intro b2 w2 hq1 hq2; have HB2 := hid hq1; have HRD := hid (HRC.out.below hq2); have HKD := hid (HKM.out.below hq2); have HBK2 : Hid (w2.heap[b19]? = some (.cells (mnC (1 + q3) (txt []) VN (tyN j) X.k (.slice sp sn sc) X.l X.r 1 s20).toArray 78 (0, 0))) := (hq2.block _ (zAD HBK.out)).trans HBK.out; have HBB2 := hid hq2; clear hq1 hq2)
              | ((with_reducible show wpList _ _ _ (Oper.mk (some 217) _ _ _ _ _ :: _) _ _); refine zB1 (by rfl) _ _ 50 (by rfl) w.heap.size isC 78 20 248 im _ Tryz.underlying50 HIM.out.1 HIM.out.2.1 HIM.out.2.2.1 HIM.out.2.2.2 rfl (by omega) (by decide) (.slice mp m mc) ((pwMs p.m (pwK p.w N) m).map encM) (by rfl) HRD.out.r3 HRD.out.bel.size b2 (mnC (1 + q3) (txt []) VN (tyN j) X.k (.slice sp sn sc) X.l X.r 1 s20) (by rfl) HB2.out (by rfl) (by rfl) (encM ⟨1 + q3, (txt []), ⟨VN, tyN j, X, 1, s20⟩⟩) HKD.out (by decide) HLM1.out (m + 1) HLM2.out ?_; intro mp5 mc5 w5 hq1 hq2 hq3; have HR5 := hid hq1; have HG5 := hid hq2; have HO5 := hid hq3; clear hq1 hq2 hq3)
              | ((with_reducible show wpList _ _ _ (Oper.mk _ (.store 50 _ _) _ _ _ _ :: _) _ _); refine zAT 50 (w.heap.size + 2) 3 [.string nm, (.slice wp N wcp), (.slice tp M1 tc), (.slice mp m mc), (.slice kp M1 kc), .string ⟨#[]⟩, .slice none 0 0] 56 (.slice mp5 (m + 1) mc5) [.slice mp5 (m + 1) mc5] (HRD.out.ub_mv HG5.out) ?_; intro w6 hq1 hq2; have HRE : Hid (Ru w w6 [.slice p0 L0 c0, .slice p1 L1 c1, .slice (some ⟨g, off, none⟩) L2 c2, .slice p3 L3 c3, .int .i64 p.e] (⟨nm, pwWs p.w N, pwTs p.t (pwK p.w N) M1, pwMs p.m (pwK p.w N) m ++ [⟨1 + q3, (txt []), ⟨VN, tyN j, X, 1, s20⟩⟩], pwUs p.t (alN N) M1, ⟨txt [], []⟩⟩ : Rl) (pwK p.w N) (alN N) (.slice wp N wcp) (.slice tp M1 tc) (.slice mp5 (m + 1) mc5) (.slice kp M1 kc) (.slice np kl nc) (.slice ap N ac)) := HRD.out.app_mv HG5.out HO5.out HR5.out hq1 hq2; clear hq1 hq2))
             go_roundg (M2 + 1 - (m + 1))
             case rel =>
              refine ⟨m + 1, mp5, mc5, HLT.out, rfl, by go_num, ?_⟩
              rw [HEF.out]
              exact HRE.out
             case measure => omega
  . obtain rfl : M2 = m := by omega
    go_upto_region 29 with fail
    go_cut [164] from 156 to 218 (fun s wx => s = .bool false ∧ wr = wx)
    case first =>
     have q1 : wr.cell? ⟨w.heap.size, 2, none⟩ = some (.slice p2 L2 c2) := by rw [zAB HR.out.pb]; rfl
     by_cases h3 : M2 < L2
     . have e1 : decide (M2 < L2) = true := by simpa using h3
       have e2 : decide ((M2 : Int) < 2) = false := by have := HM2.out; simp; omega
       clear hlt h3
       go_wp2_with fail
       go_meet
       exact ⟨rfl, rfl⟩
     . have e1 : decide (M2 < L2) = false := by simpa using h3
       clear hlt h3
       go_wp2_with fail
       go_meet
       exact ⟨rfl, rfl⟩
    case rest =>
     obtain ⟨rfl, rfl⟩ := hcut
     go_wp2_with fail
     exact HX.out mp mc _ _ _ _ _ _ _ _ _ _ _ _ _ _ _ _ _ _ _ _ _ _ _ _ _ _ _ _ _ _ _ _ _ _ _ _ _ _ _ _ _ _ _ _ _ _ _ _ _ _ _ _ _ _ _ _ _ _ _ _ _ _ _ _ _ _ _ HR.out
end Go.Proofs.YtnlmknbhppdliaaGreatDoor.Chk
