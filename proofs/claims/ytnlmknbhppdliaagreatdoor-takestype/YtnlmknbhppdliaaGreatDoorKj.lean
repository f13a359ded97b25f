/-
  A rule of raw numbers: a loop.
-/
import Derived.Test.YtnlmknbhppdliaaGreatDoorKe
set_option maxHeartbeats 64000000
namespace Go.Proofs.YtnlmknbhppdliaaGreatDoor.Chk
open Go.ChangeShapes Go.WideShapes Go.ChangeAt Go.RowKit Go.Maps
set_option linter.unusedVariables false
set_option linter.unusedSimpArgs false
set_option maxRecDepth 20000
theorem rule_l2 (nm : ByteArray) (p : Plt) (hp : p.ok) (p0 : Option Addr) (c0 : Nat) (p1 : Option Addr) (c1 : Nat) (p2 : Option Addr) (c2 : Nat) (p3 : Option Addr) (c3 : Nat) (w : World) (N L0 L1 L2 L3 M1 M2 MB : Nat) (ip is im ik iq : TypeInfo)
  (HA0 : Hid (At zBC 5 w p0 p.w)) (HA1 : Hid (At zBC 5 w p1 p.t)) (HA2 : Hid (At zBC 5 w p2 p.m)) (HA3 : Hid (At zDG 6 w p3 p.b))
  (HNN : Hid (pwL p.w = N)) (HN3 : Hid (1 ≤ N ∧ N ≤ 3)) (HL0 : Hid (p.w.length = L0)) (HL1 : Hid (p.t.length = L1)) (HL2 : Hid (p.m.length = L2)) (HL3 : Hid (p.b.length = L3)) (HN0 : Hid (∀ k, k < N → k ≠ 0 → k < L0)) (HN1 : Hid (N < 3 → N ≠ 0 ∧ ¬ N < L0)) (HM1 : Hid (min L1 2 = M1)) (HM2 : Hid (min L2 2 = M2)) (HMBB : Hid (pwB p = MB)) (HMB : Hid ((N = 1 → MB = 0) ∧ (N ≠ 1 → MB = min L3 (6 - M1))))
  (HIP : Hid (Tryz.prog.info? 48 = some ip ∧ ip.zero = some zP ∧ ip.size = 18 ∧ ip.bytes = 224)) (HIS : Hid (Tryz.prog.info? 9 = some is ∧ is.zero = some (.string ByteArray.empty) ∧ is.size = 1 ∧ is.bytes = 16)) (HIM : Hid (Tryz.prog.info? 78 = some im ∧ im.zero = some zM ∧ im.size = 20 ∧ im.bytes = 248)) (HIK : Hid (Tryz.prog.info? 66 = some ik ∧ ik.zero = some (.agg #[.string ByteArray.empty, .slice none 0 0, .string ByteArray.empty]) ∧ ik.size = 3 ∧ ik.bytes = 56)) (HIQ : Hid (Tryz.prog.info? 63 = some iq ∧ iq.zero = some (.agg #[.int .i64 0, .int .i64 0, .int .i64 0]) ∧ iq.size = 3 ∧ iq.bytes = 24))
  (kl : Nat) (wp np ap : Option Addr) (wcp nc ac : Nat) (HKL : Hid ((pwK p.w N).length = kl))
  (w6 : World) (HR0 : Hid (Ru w w6 [.slice p0 L0 c0, .slice p1 L1 c1, .slice p2 L2 c2, .slice p3 L3 c3, .int .i64 p.e] (⟨nm, pwWs p.w N, [], [], [], ⟨txt [], []⟩⟩ : Rl) (pwK p.w N) (alN N) (.slice wp N wcp) (.slice none 0 0) (.slice none 0 0) (.slice none 0 0) (.slice np kl nc) (.slice ap N ac)))
  {Q : Exit → Act → World → Prop} (f0 f1 f2 f4 f8 f9 f10 f11 f13 f14 f15 f16 f17 f18 f19 f20 f21 f22 f23 f24 f25 f26 f27 f28 f29 f30 f31 f32 f33 f34 f35 f36 f37 f38 f39 f40 f41 f42 f43 f44 f45 f46 f47 f48 f49 f50 f51 f52 f53 f54 f55 f56 f57 f58 f59 f60 f61 f62 f63 f64 f65 f66 f67 f68 f69 f70 f71 f72 f73 f74 f75 f76 f77 f78 f79 f80 f81 f82 f83 f84 f85 f86 f87 f88 f89 f90 f91 f92 f93 f94 f95 f96 f97 f98 f99 f100 f101 f102 f103 f104 f105 f106 f107 f108 f109 f110 f111 f112 f113 f114 f115 f116 f117 f118 f119 f120 f121 f122 f123 f124 f125 f126 f127 f128 f129 f130 f131 f132 f133 f134 f135 f136 f137 f138 f139 f140 f141 f142 f143 f144 f145 f146 f147 f148 f149 f150 f151 f152 f153 f154 f155 f156 f157 f158 f159 f160 f161 f162 f163 f164 f165 f166 f167 f168 f169 f170 f171 f172 f173 f174 f175 f176 f177 f178 f179 f180 f181 f182 f183 f184 f185 f186 f187 f188 f189 f190 f191 f192 f193 f194 f195 f196 f197 f198 f199 f200 f201 f202 f203 f204 f205 f206 f207 f208 f209 f210 f211 f212 f213 f214 f215 f216 f217 f218 f219 f220 f221 f222 f223 f224 f225 f226 f227 f228 f229 f230 f231 f232 f233 f234 f235 f236 f237 f238 f239 f240 f241 f242 f243 f244 f245 f246 f247 f248 f249 f250 f251 f252 f253 f254 f255 f256 f257 f258 f259 f260 f261 f262 f263 f264 f265 f266 f267 f268 f269 f270 f271 f272 f273 f274 f275 f276 f277 f278 f279 f280 f281 f282 f283 f284 f285 f286 f287 f288 f289 f290 f291 f292 f293 f294 f295 f296 f297 f298 f299 f300 f301 f302 f303 f304 f305 f306 f307 f308 f309 f310 f311 f312 f313 f314 f315 f316 f317 f318 f319 f320 f321 f322 : Value)
  (hexit : ∀ (tp kp : Option Addr) (tc kc : Nat) (wr : World) (g13 g14 g15 g101 g102 g103 g104 g105 g106 g107 g108 g109 g110 g111 g112 g113 g114 g115 g116 g117 g118 g119 g120 g121 g122 g123 g124 g125 g126 g127 g128 g129 g130 g131 g132 g133 g134 g135 g136 g137 g138 g139 g140 g141 g142 g143 g144 g145 g146 g147 g148 g149 g150 g151 g152 g153 g154 g155 : Value), Ru w wr [.slice p0 L0 c0, .slice p1 L1 c1, .slice p2 L2 c2, .slice p3 L3 c3, .int .i64 p.e] (⟨nm, pwWs p.w N, pwTs p.t (pwK p.w N) M1, [], pwUs p.t (alN N) M1, ⟨txt [], []⟩⟩ : Rl) (pwK p.w N) (alN N) (.slice wp N wcp) (.slice tp M1 tc) (.slice none 0 0) (.slice kp M1 kc) (.slice np kl nc) (.slice ap N ac) → Q (.exit 3) ⟨List.toArray (f0 :: f1 :: f2 :: (.pointer (some ⟨w.heap.size, 0, none⟩)) :: f4 :: (.pointer (some ⟨w.heap.size + 2, 0, none⟩)) :: (.slice np kl nc) :: (.slice ap N ac) :: f8 :: f9 :: f10 :: f11 :: (.int .i64 (M1 : Nat)) :: g13 :: g14 :: g15 :: f16 :: f17 :: f18 :: f19 :: f20 :: f21 :: f22 :: f23 :: f24 :: f25 :: f26 :: f27 :: f28 :: f29 :: f30 :: f31 :: f32 :: f33 :: f34 :: f35 :: f36 :: f37 :: f38 :: f39 :: f40 :: f41 :: f42 :: f43 :: f44 :: f45 :: f46 :: f47 :: f48 :: f49 :: f50 :: f51 :: f52 :: f53 :: f54 :: f55 :: f56 :: f57 :: f58 :: f59 :: f60 :: f61 :: f62 :: f63 :: f64 :: f65 :: f66 :: f67 :: f68 :: f69 :: f70 :: f71 :: f72 :: f73 :: f74 :: f75 :: f76 :: f77 :: f78 :: f79 :: f80 :: f81 :: f82 :: f83 :: f84 :: f85 :: f86 :: f87 :: f88 :: f89 :: f90 :: f91 :: f92 :: f93 :: f94 :: f95 :: f96 :: f97 :: f98 :: f99 :: f100 :: g101 :: g102 :: g103 :: g104 :: g105 :: g106 :: g107 :: g108 :: g109 :: g110 :: g111 :: g112 :: g113 :: g114 :: g115 :: g116 :: g117 :: g118 :: g119 :: g120 :: g121 :: g122 :: g123 :: g124 :: g125 :: g126 :: g127 :: g128 :: g129 :: g130 :: g131 :: g132 :: g133 :: g134 :: g135 :: g136 :: g137 :: g138 :: g139 :: g140 :: g141 :: g142 :: g143 :: g144 :: g145 :: g146 :: g147 :: g148 :: g149 :: g150 :: g151 :: g152 :: g153 :: g154 :: g155 :: f156 :: f157 :: f158 :: f159 :: f160 :: f161 :: f162 :: f163 :: f164 :: f165 :: f166 :: f167 :: f168 :: f169 :: f170 :: f171 :: f172 :: f173 :: f174 :: f175 :: f176 :: f177 :: f178 :: f179 :: f180 :: f181 :: f182 :: f183 :: f184 :: f185 :: f186 :: f187 :: f188 :: f189 :: f190 :: f191 :: f192 :: f193 :: f194 :: f195 :: f196 :: f197 :: f198 :: f199 :: f200 :: f201 :: f202 :: f203 :: f204 :: f205 :: f206 :: f207 :: f208 :: f209 :: f210 :: f211 :: f212 :: f213 :: f214 :: f215 :: f216 :: f217 :: f218 :: f219 :: f220 :: f221 :: f222 :: f223 :: f224 :: f225 :: f226 :: f227 :: f228 :: f229 :: f230 :: f231 :: f232 :: f233 :: f234 :: f235 :: f236 :: f237 :: f238 :: f239 :: f240 :: f241 :: f242 :: f243 :: f244 :: f245 :: f246 :: f247 :: f248 :: f249 :: f250 :: f251 :: f252 :: f253 :: f254 :: f255 :: f256 :: f257 :: f258 :: f259 :: f260 :: f261 :: f262 :: f263 :: f264 :: f265 :: f266 :: f267 :: f268 :: f269 :: f270 :: f271 :: f272 :: f273 :: f274 :: f275 :: f276 :: f277 :: f278 :: f279 :: f280 :: f281 :: f282 :: f283 :: f284 :: f285 :: f286 :: f287 :: f288 :: f289 :: f290 :: f291 :: f292 :: f293 :: f294 :: f295 :: f296 :: f297 :: f298 :: f299 :: f300 :: f301 :: f302 :: f303 :: f304 :: f305 :: f306 :: f307 :: f308 :: f309 :: f310 :: f311 :: f312 :: f313 :: f314 :: f315 :: f316 :: f317 :: f318 :: f319 :: f320 :: f321 :: f322 :: []), []⟩ wr) :
  Code.wp Tryz.prog (lpn Tryz.f18 1) Q ⟨List.toArray (f0 :: f1 :: f2 :: (.pointer (some ⟨w.heap.size, 0, none⟩)) :: f4 :: (.pointer (some ⟨w.heap.size + 2, 0, none⟩)) :: (.slice np kl nc) :: (.slice ap N ac) :: f8 :: f9 :: f10 :: f11 :: (.int .i64 0) :: f13 :: f14 :: f15 :: f16 :: f17 :: f18 :: f19 :: f20 :: f21 :: f22 :: f23 :: f24 :: f25 :: f26 :: f27 :: f28 :: f29 :: f30 :: f31 :: f32 :: f33 :: f34 :: f35 :: f36 :: f37 :: f38 :: f39 :: f40 :: f41 :: f42 :: f43 :: f44 :: f45 :: f46 :: f47 :: f48 :: f49 :: f50 :: f51 :: f52 :: f53 :: f54 :: f55 :: f56 :: f57 :: f58 :: f59 :: f60 :: f61 :: f62 :: f63 :: f64 :: f65 :: f66 :: f67 :: f68 :: f69 :: f70 :: f71 :: f72 :: f73 :: f74 :: f75 :: f76 :: f77 :: f78 :: f79 :: f80 :: f81 :: f82 :: f83 :: f84 :: f85 :: f86 :: f87 :: f88 :: f89 :: f90 :: f91 :: f92 :: f93 :: f94 :: f95 :: f96 :: f97 :: f98 :: f99 :: f100 :: f101 :: f102 :: f103 :: f104 :: f105 :: f106 :: f107 :: f108 :: f109 :: f110 :: f111 :: f112 :: f113 :: f114 :: f115 :: f116 :: f117 :: f118 :: f119 :: f120 :: f121 :: f122 :: f123 :: f124 :: f125 :: f126 :: f127 :: f128 :: f129 :: f130 :: f131 :: f132 :: f133 :: f134 :: f135 :: f136 :: f137 :: f138 :: f139 :: f140 :: f141 :: f142 :: f143 :: f144 :: f145 :: f146 :: f147 :: f148 :: f149 :: f150 :: f151 :: f152 :: f153 :: f154 :: f155 :: f156 :: f157 :: f158 :: f159 :: f160 :: f161 :: f162 :: f163 :: f164 :: f165 :: f166 :: f167 :: f168 :: f169 :: f170 :: f171 :: f172 :: f173 :: f174 :: f175 :: f176 :: f177 :: f178 :: f179 :: f180 :: f181 :: f182 :: f183 :: f184 :: f185 :: f186 :: f187 :: f188 :: f189 :: f190 :: f191 :: f192 :: f193 :: f194 :: f195 :: f196 :: f197 :: f198 :: f199 :: f200 :: f201 :: f202 :: f203 :: f204 :: f205 :: f206 :: f207 :: f208 :: f209 :: f210 :: f211 :: f212 :: f213 :: f214 :: f215 :: f216 :: f217 :: f218 :: f219 :: f220 :: f221 :: f222 :: f223 :: f224 :: f225 :: f226 :: f227 :: f228 :: f229 :: f230 :: f231 :: f232 :: f233 :: f234 :: f235 :: f236 :: f237 :: f238 :: f239 :: f240 :: f241 :: f242 :: f243 :: f244 :: f245 :: f246 :: f247 :: f248 :: f249 :: f250 :: f251 :: f252 :: f253 :: f254 :: f255 :: f256 :: f257 :: f258 :: f259 :: f260 :: f261 :: f262 :: f263 :: f264 :: f265 :: f266 :: f267 :: f268 :: f269 :: f270 :: f271 :: f272 :: f273 :: f274 :: f275 :: f276 :: f277 :: f278 :: f279 :: f280 :: f281 :: f282 :: f283 :: f284 :: f285 :: f286 :: f287 :: f288 :: f289 :: f290 :: f291 :: f292 :: f293 :: f294 :: f295 :: f296 :: f297 :: f298 :: f299 :: f300 :: f301 :: f302 :: f303 :: f304 :: f305 :: f306 :: f307 :: f308 :: f309 :: f310 :: f311 :: f312 :: f313 :: f314 :: f315 :: f316 :: f317 :: f318 :: f319 :: f320 :: f321 :: f322 :: []), []⟩ w6 := by
 have HX := hid hexit
 clear hexit
 conv => arg 2; whnf
 go_loopg [12] (M1 + 1) (fun gg s12 wr => ∃ (m : Nat) (tp kp : Option Addr) (tc kc : Nat), m ≤ M1 ∧ gg = M1 + 1 - m ∧ s12 = .int .i64 (m : Nat) ∧ Ru w wr [.slice p0 L0 c0, .slice p1 L1 c1, .slice p2 L2 c2, .slice p3 L3 c3, .int .i64 p.e] (⟨nm, pwWs p.w N, pwTs p.t (pwK p.w N) m, [], pwUs p.t (alN N) m, ⟨txt [], []⟩⟩ : Rl) (pwK p.w N) (alN N) (.slice wp N wcp) (.slice tp m tc) (.slice none 0 0) (.slice kp m kc) (.slice np kl nc) (.slice ap N ac))
 case atStart => exact ⟨0, none, none, 0, 0, by omega, by omega, rfl, HR0.out⟩
 case round =>
  clear HR0
  obtain ⟨m, tp, kp, tc, kc, hm, rfl, rfl, hR⟩ := hrel
  have HR := hid hR
  clear hR
  by_cases hlt : m < M1
  . have HLT := hid hlt
    have hmL : m < L1 := by have := HM1.out; omega
    have hm2 : m < 2 := by have := HM1.out; omega
    obtain ⟨c, hcc⟩ : ∃ c, p.t.getD m cst0 = c := ⟨_, rfl⟩
    have hcok : c.ok := by rw [← hcc]; exact zGP hp.t m
    have HCN := hid hcok.n
    go_upto_region 22 with fail
    go_cut [109] from 101 to 155 (fun s wx => s = .bool true ∧ wr = wx)
    case first =>
     have q1 : wr.cell? ⟨w.heap.size, 1, none⟩ = some (.slice p1 L1 c1) := by rw [zAB HR.out.pb]; rfl
     have e1 : decide (m < L1) = true := by simpa using hmL
     have e2 : decide ((m : Int) < 2) = true := by simp; omega
     clear hlt hmL hm2
     go_wp2_with fail
     go_meet
     exact ⟨rfl, rfl⟩
    case rest =>
     obtain ⟨rfl, rfl⟩ := hcut
     have hx := cs_at HA1.out (k := m) (by have := HL1.out; omega)
     rw [hcc] at hx
     obtain ⟨g, off, hp1, hx⟩ := hx
     subst hp1
     have XCS := hid hx
     have HRB := HR
     have HBU : Hid (w.heap.size + 2 < wr.heap.size) := HR.out.bl
     have HOW : Hid (∀ i, (Value.slice tp m tc).ownBlock = some i → i < wr.heap.size) := fun i hi => (HR.out.r2.tb hi).1.lt
     have HBO := hid (fun W => zGX c hcok W)
     obtain ⟨j, hj⟩ : ∃ j, pwA c = j := ⟨_, rfl⟩
     obtain ⟨X, hX⟩ : ∃ X, pwC c (pwK p.w N) = X := ⟨_, rfl⟩
     obtain ⟨VN, hVN⟩ : ∃ VN, unm m = VN := ⟨_, rfl⟩
     have HVN : Hid ((#[.string ⟨#[117]⟩, .string ⟨#[118]⟩] : Array Value)[m]? = some (.string VN)) := by
       show _ = _
       rw [← hVN]
       rcases (by omega : m = 0 ∨ m = 1) with h9 | h9 <;> rw [h9] <;> rfl
     have HPAT := hid (fun W (hW : Below wr.heap.size wr W) => zET VN c hcok (pwK p.w N) (.slice np kl nc) W ((HRB.out.below hW).r6.rd) (by have := zDZ p.w N; have := HN3.out.2; omega))
     rw [hj, hX] at HPAT
     have HJX := hid (And.intro hj (And.intro hX hVN))
     have i1 : (0 : Int) ≤ (m : Int) := by omega
     have i2 : (m : Int) < 2 := by omega
     have i3 : (m : Int) < (L1 : Int) := by omega
     have i4 : m < L1 := hmL
     clear hcok hj hX hVN hlt hmL hx
     go_upto_region 24 with fail
     refine zBA (by kernel_rfl) (fun i w9 v => ([(fun w9 v => ∃ (b : Nat), v = .slice (some ⟨b, 0, none⟩) 2 2 ∧ w9.heap[b]? = some (.cells #[.string ⟨#[117]⟩, .string ⟨#[118]⟩] 9 (0, 0))), (fun w9 v => v = .int .i64 (m : Nat)), (fun w9 v => ∃ (b : Nat), v = .pointer (some ⟨b, m, none⟩) ∧ w9.heap[b]? = some (.cells #[.string ⟨#[117]⟩, .string ⟨#[118]⟩] 9 (0, 0))), (fun w9 v => v = .string VN), (fun w9 v => v = .pointer (some ⟨w.heap.size, 1, none⟩)), (fun w9 v => v = .slice (some ⟨g, off, none⟩) L1 c1), (fun w9 v => v = .int .i64 (m : Nat)), (fun w9 v => v = .pointer (some ⟨g, off + m * 5, none⟩)), (fun w9 v => v = .agg #[.int .i64 c.ty, .int .i64 c.co, .int .i64 c.n, .int .i64 c.wi, .int .i64 c.si]), (fun w9 v => v = (.slice np kl nc)), (fun w9 v => ∃ (sp : Option Addr) (sn sc : Nat), v = .tuple #[ptV VN (tyN j) X.k (.slice sp sn sc) X.l X.r 0 0, .int .i64 (j : Nat)] ∧ KT w9 w.heap.size isC (encC X) (cnC X.k (.slice sp sn sc) X.l X.r)), (fun w9 v => ∃ (sp : Option Addr) (sn sc : Nat), v = .tuple #[ptV VN (tyN j) X.k (.slice sp sn sc) X.l X.r 0 0, .int .i64 (j : Nat)] ∧ KT w9 w.heap.size isC (encC X) (cnC X.k (.slice sp sn sc) X.l X.r)), (fun w9 v => ∃ (sp : Option Addr) (sn sc : Nat), v = ptV VN (tyN j) X.k (.slice sp sn sc) X.l X.r 0 0 ∧ KT w9 w.heap.size isC (encC X) (cnC X.k (.slice sp sn sc) X.l X.r)), (fun w9 v => v = .int .i64 (j : Nat)), (fun w9 v => ∃ (b : Nat), v = .pointer (some ⟨b, 0, none⟩) ∧ wr.heap.size ≤ b ∧ ∃ cs : List Value, cs.length = 18 ∧ w9.heap[b]? = some (.cells cs.toArray 48 (0, 0))), (fun w9 v => True), (fun w9 v => v = .int .i64 (j : Nat))] : List (World → Value → Prop)).getD i (fun _ _ => True) w9 v) (fun W => Below wr.heap.size wr W) 15 14 13 _ rfl (by kernel_rfl) (by decide) (by kernel_rfl) (fun w9 v => ∃ (b : Nat) (sp : Option Addr) (sn sc : Nat), v = .pointer (some ⟨b, 0, none⟩) ∧ wr.heap.size ≤ b ∧ w9.heap[b]? = some (.cells (ptC VN (tyN j) X.k (.slice sp sn sc) X.l X.r 0 0).toArray 48 (0, 0)) ∧ KT w9 w.heap.size isC (encC X) (cnC X.k (.slice sp sn sc) X.l X.r)) 323 rfl (by kernel_rfl) (fun W W' => Below W.heap.size W W') (fun W W' => ∃ b2, wr.heap.size ≤ b2 ∧ TB W 48 b2 ∧ Fr (fun i => i = b2) W W' ∧ ∃ cs : List Value, cs.length = 18 ∧ W'.heap[b2]? = some (.cells cs.toArray 48 (0, 0))) ?hmon ?hmonR ?hmonS (Below.drew (Below.refl _ _)) (zAC.cons ?o0 (zAC.cons ?o1 (zAC.cons ?o2 (zAC.cons ?o3 (zAC.cons ?o4 (zAC.cons ?o5 (zAC.cons ?o6 (zAC.cons ?o7 (zAC.cons ?o8 (zAC.cons ?o9 (zAC.cons ?o10 (zAC.cons ?o11 (zAC.cons ?o12 (zAC.cons ?o13 (zAC.cons ?o14 (zAC.cons ?o15 (zAC.cons ?o16 zAC.nil))))))))))))))))) ?hst ?hend
     case hmon =>
       intro q W W' v hb h
       rcases q with _ | _ | _ | _ | _ | _ | _ | _ | _ | _ | _ | _ | _ | _ | _ | _ | _ | q
       . obtain ⟨b, e, h1⟩ := h; exact ⟨b, e, (hb.block _ (zAD h1)).trans h1⟩
       . exact h
       . obtain ⟨b, e, h1⟩ := h; exact ⟨b, e, (hb.block _ (zAD h1)).trans h1⟩
       . exact h
       . exact h
       . exact h
       . exact h
       . exact h
       . exact h
       . exact h
       . obtain ⟨sp, sn, sc, e, h1⟩ := h; exact ⟨sp, sn, sc, e, h1.below hb⟩
       . obtain ⟨sp, sn, sc, e, h1⟩ := h; exact ⟨sp, sn, sc, e, h1.below hb⟩
       . obtain ⟨sp, sn, sc, e, h1⟩ := h; exact ⟨sp, sn, sc, e, h1.below hb⟩
       . exact h
       . obtain ⟨b, e, h1, cs, h2, h3⟩ := h; exact ⟨b, e, h1, cs, h2, (hb.block _ (zAD h3)).trans h3⟩
       . exact h
       . exact h
       . exact h
     case hmonR =>
       intro W W' v hb h
       obtain ⟨b, sp, sn, sc, e, h1, h2, h3⟩ := h
       exact ⟨b, sp, sn, sc, e, h1, (hb.block _ (zAD h2)).trans h2, h3.below hb⟩
     case hmonS =>
       intro q W W' v hks hb h
       rcases q with _ | _ | _ | _ | _ | _ | _ | _ | _ | _ | _ | _ | _ | _ | _ | _ | _ | q
       . obtain ⟨b, e, h1⟩ := h; obtain ⟨b2, q1, q2, q3, _⟩ := hb; exact ⟨b, e, (q3.block _ (zAD h1) (fun c9 => q2.ne ⟨_, h1⟩ (by decide) c9.symm)).trans h1⟩
       . exact h
       . obtain ⟨b, e, h1⟩ := h; obtain ⟨b2, q1, q2, q3, _⟩ := hb; exact ⟨b, e, (q3.block _ (zAD h1) (fun c9 => q2.ne ⟨_, h1⟩ (by decide) c9.symm)).trans h1⟩
       . exact h
       . exact h
       . exact h
       . exact h
       . exact h
       . exact h
       . exact h
       . obtain ⟨sp, sn, sc, e, h1⟩ := h; obtain ⟨b2, q1, q2, q3, _⟩ := hb; exact ⟨sp, sn, sc, e, h1.fr q3 q2 (by decide)⟩
       . obtain ⟨sp, sn, sc, e, h1⟩ := h; obtain ⟨b2, q1, q2, q3, _⟩ := hb; exact ⟨sp, sn, sc, e, h1.fr q3 q2 (by decide)⟩
       . obtain ⟨sp, sn, sc, e, h1⟩ := h; obtain ⟨b2, q1, q2, q3, _⟩ := hb; exact ⟨sp, sn, sc, e, h1.fr q3 q2 (by decide)⟩
       . exact h
       . obtain ⟨b, e, h1, cs, h2, h3⟩ := h; obtain ⟨b2, q1, q2, q3, cs2, q4, q5⟩ := hb; by_cases hbb : b = b2; (subst hbb; exact ⟨b, e, h1, cs2, q4, q5⟩); exact ⟨b, e, h1, cs, h2, (q3.block _ (zAD h3) hbb).trans h3⟩
       . exact h
       . exact h
       . exact h
     case o0 =>
       intro _ a W hB hd ho
       have hal : Below W.heap.size W (W.alloc (.cells #[.string ⟨#[117]⟩, .string ⟨#[118]⟩] 9)) := (Below.refl _ _).alloc (Nat.le_refl _) _
       refine zBT 84 2 _ rfl #[(0, .string ⟨#[117]⟩), (1, .string ⟨#[118]⟩)] (by simp [ev_c]) (.slice (some ⟨W.heap.size, 0, none⟩) 2 2) (W.alloc (.cells #[.string ⟨#[117]⟩, .string ⟨#[118]⟩] 9)) (by kernel_rfl) ⟨_, rfl, ⟨W.heap.size, rfl, heap_alloc_new _ _⟩, zAA hB hal hB.size, hal⟩
     case o1 =>
       intro _ a W hB hd ho
       have e12 : a.eval (.tmp 12) = .int .i64 (m : Nat) := ho 12 (by kernel_rfl)
       exact zA1 _ (by simp) _ e12 ⟨_, rfl, rfl, hB, Below.refl _ _⟩
     case o2 =>
       intro _ a W hB hd ho
       obtain ⟨b, e113, h1⟩ : ∃ (b : Nat), a.eval (.tmp 113) = .slice (some ⟨b, 0, none⟩) 2 2 ∧ W.heap[b]? = some (.cells #[.string ⟨#[117]⟩, .string ⟨#[118]⟩] 9 (0, 0)) := hd 0 113 (by kernel_rfl)
       have e114 : a.eval (.tmp 114) = .int .i64 (m : Nat) := hd 1 114 (by kernel_rfl)
       exact zAK (.pointer (some ⟨b, m, none⟩)) (by unfold execOp; simp only [ev_c, e113, e114]; go_simp) ⟨_, rfl, ⟨b, rfl, h1⟩, hB, Below.refl _ _⟩
     case o3 =>
       intro _ a W hB hd ho
       obtain ⟨b, e115, h1⟩ : ∃ (b : Nat), a.eval (.tmp 115) = .pointer (some ⟨b, m, none⟩) ∧ W.heap[b]? = some (.cells #[.string ⟨#[117]⟩, .string ⟨#[118]⟩] 9 (0, 0)) := hd 2 115 (by kernel_rfl)
       have c9 : W.cell? ⟨b, m, none⟩ = some (.string VN) := by
         rw [zAB h1]
         exact HVN.out
       exact zAK (.string VN) (by unfold execOp; simp only [ev_c, e115]; go_simp) ⟨_, rfl, rfl, hB, Below.refl _ _⟩
     case o4 =>
       intro _ a W hB hd ho
       have e3 : a.eval (.tmp 3) = .pointer (some ⟨w.heap.size, 0, none⟩) := ho 3 (by kernel_rfl)
       exact zAK (.pointer (some ⟨w.heap.size, 1, none⟩)) (by unfold execOp; simp only [ev_c, e3]; go_simp) ⟨_, rfl, rfl, hB, Below.refl _ _⟩
     case o5 =>
       intro _ a W hB hd ho
       have e117 : a.eval (.tmp 117) = .pointer (some ⟨w.heap.size, 1, none⟩) := hd 4 117 (by kernel_rfl)
       have c9 : W.cell? ⟨w.heap.size, 1, none⟩ = some (.slice (some ⟨g, off, none⟩) L1 c1) := by
         rw [zAB ((HRB.out.below hB).pb)]
         rfl
       exact zAK (.slice (some ⟨g, off, none⟩) L1 c1) (by unfold execOp; simp only [ev_c, e117]; go_simp) ⟨_, rfl, rfl, hB, Below.refl _ _⟩
     case o6 =>
       intro _ a W hB hd ho
       have e12 : a.eval (.tmp 12) = .int .i64 (m : Nat) := ho 12 (by kernel_rfl)
       exact zA1 _ (by simp) _ e12 ⟨_, rfl, rfl, hB, Below.refl _ _⟩
     case o7 =>
       intro _ a W hB hd ho
       have e118 : a.eval (.tmp 118) = .slice (some ⟨g, off, none⟩) L1 c1 := hd 5 118 (by kernel_rfl)
       have e119 : a.eval (.tmp 119) = .int .i64 (m : Nat) := hd 6 119 (by kernel_rfl)
       exact zAK (.pointer (some ⟨g, off + m * 5, none⟩)) (by unfold execOp; simp only [ev_c, e118, e119]; go_simp) ⟨_, rfl, rfl, hB, Below.refl _ _⟩
     case o8 =>
       intro _ a W hB hd ho
       have e120 : a.eval (.tmp 120) = .pointer (some ⟨g, off + m * 5, none⟩) := hd 7 120 (by kernel_rfl)
       exact zBZ 117 _ rfl g (off + m * 5) e120 [.int .i64 c.ty, .int .i64 c.co, .int .i64 c.n, .int .i64 c.wi, .int .i64 c.si] _ (XCS.out W (zAA HRB.out.bel hB HRB.out.bel.size)) Tryz.underlying117 rfl (by kernel_rfl) ⟨_, rfl, rfl, hB, Below.refl _ _⟩
     case o9 =>
       intro _ a W hB hd ho
       have e6 : a.eval (.tmp 6) = (.slice np kl nc) := ho 6 (by kernel_rfl)
       exact zA1 _ (by simp) _ e6 ⟨_, rfl, rfl, hB, Below.refl _ _⟩
     case o10 =>
       intro _ a W hB hd ho
       have e116 : a.eval (.tmp 116) = .string VN := hd 3 116 (by kernel_rfl)
       have e121 : a.eval (.tmp 121) = .agg #[.int .i64 c.ty, .int .i64 c.co, .int .i64 c.n, .int .i64 c.wi, .int .i64 c.si] := hd 8 121 (by kernel_rfl)
       have e122 : a.eval (.tmp 122) = (.slice np kl nc) := hd 9 122 (by kernel_rfl)
       refine zA0 38 zG3 _ _ rfl #[.string VN, .agg #[.int .i64 c.ty, .int .i64 c.co, .int .i64 c.n, .int .i64 c.wi, .int .i64 c.si], (.slice np kl nc)] (by simp [e116, e121, e122]) _ (HPAT.out W hB) ?_
       rintro e W' ⟨sp, sn, sc, rfl, hkt, hal⟩
       exact ⟨_, rfl, _, rfl, ⟨sp, sn, sc, rfl, hkt.low (Nat.le_trans HRB.out.bel.size hB.size)⟩, zAA hB hal hB.size, hal⟩
     case o11 =>
       intro _ a W hB hd ho
       obtain ⟨sp, sn, sc, e9, hkt⟩ : ∃ (sp : Option Addr) (sn sc : Nat), a.eval (.tmp 123) = .tuple #[ptV VN (tyN j) X.k (.slice sp sn sc) X.l X.r 0 0, .int .i64 (j : Nat)] ∧ KT W w.heap.size isC (encC X) (cnC X.k (.slice sp sn sc) X.l X.r) := hd 10 123 (by kernel_rfl)
       exact zA1 _ (by simp) _ e9 ⟨_, rfl, ⟨sp, sn, sc, rfl, hkt⟩, hB, Below.refl _ _⟩
     case o12 =>
       intro _ a W hB hd ho
       obtain ⟨sp, sn, sc, e9, hkt⟩ : ∃ (sp : Option Addr) (sn sc : Nat), a.eval (.tmp 112) = .tuple #[ptV VN (tyN j) X.k (.slice sp sn sc) X.l X.r 0 0, .int .i64 (j : Nat)] ∧ KT W w.heap.size isC (encC X) (cnC X.k (.slice sp sn sc) X.l X.r) := hd 11 112 (by kernel_rfl)
       exact zAK (ptV VN (tyN j) X.k (.slice sp sn sc) X.l X.r 0 0) (by unfold execOp; simp only [e9]; go_simp) ⟨_, rfl, ⟨sp, sn, sc, rfl, hkt⟩, hB, Below.refl _ _⟩
     case o13 =>
       intro _ a W hB hd ho
       obtain ⟨sp, sn, sc, e9, hkt⟩ : ∃ (sp : Option Addr) (sn sc : Nat), a.eval (.tmp 112) = .tuple #[ptV VN (tyN j) X.k (.slice sp sn sc) X.l X.r 0 0, .int .i64 (j : Nat)] ∧ KT W w.heap.size isC (encC X) (cnC X.k (.slice sp sn sc) X.l X.r) := hd 11 112 (by kernel_rfl)
       exact zAK (.int .i64 (j : Nat)) (by unfold execOp; simp only [e9]; go_simp) ⟨_, rfl, rfl, hB, Below.refl _ _⟩
     case o14 =>
       intro _ a W hB hd ho
       have hal : Below W.heap.size W (W.alloc (.cells pt0.toArray 48)) := (Below.refl _ _).alloc (Nat.le_refl _) _
       exact zFQ 48 rfl (pt0) (by kernel_rfl) ⟨_, rfl, ⟨W.heap.size, rfl, hB.size, _, rfl, heap_alloc_new _ _⟩, zAA hB hal hB.size, hal⟩
     case o15 =>
       intro h9; exact absurd rfl h9
     case o16 =>
       intro _ a W hB hd ho
       have e125 : a.eval (.tmp 125) = .int .i64 (j : Nat) := hd 13 125 (by kernel_rfl)
       exact zA1 _ (by simp) _ e125 ⟨_, rfl, rfl, hB, Below.refl _ _⟩
     case hst =>
       intro a W hB hd ho
       obtain ⟨sp, sn, sc, e8, hkt⟩ : ∃ (sp : Option Addr) (sn sc : Nat), a.eval (.tmp 124) = ptV VN (tyN j) X.k (.slice sp sn sc) X.l X.r 0 0 ∧ KT W w.heap.size isC (encC X) (cnC X.k (.slice sp sn sc) X.l X.r) := hd 12 124 (by kernel_rfl)
       obtain ⟨b, e10, hb1, cs, hcs, hblk⟩ : ∃ (b : Nat), a.eval (.tmp 13) = .pointer (some ⟨b, 0, none⟩) ∧ wr.heap.size ≤ b ∧ ∃ cs : List Value, cs.length = 18 ∧ W.heap[b]? = some (.cells cs.toArray 48 (0, 0)) := hd 14 13 (by kernel_rfl)
       refine op_st 48 _ _ rfl b 0 cs 48 (ptV VN (tyN j) X.k (.slice sp sn sc) X.l X.r 0 0) (ptC VN (tyN j) X.k (.slice sp sn sc) X.l X.r 0 0) e10 e8 (by rfl) hblk (by rw [hcs]; simp) (by kernel_rfl) (by rfl) ?_
       intro w5 h5 hf5
       have h5' : w5.heap[b]? = some (.cells (ptC VN (tyN j) X.k (.slice sp sn sc) X.l X.r 0 0).toArray 48 (0, 0)) := by rw [h5, zGC cs _ (by rw [hcs]; rfl)]
       exact ⟨undef, rfl, trivial, zAG hB hf5 hb1, ⟨b, hb1, ⟨_, hblk⟩, hf5, _, rfl, h5'⟩, ⟨b, sp, sn, sc, e10, hb1, h5', hkt.fr hf5 ⟨_, hblk⟩ (by decide)⟩⟩
     case hend =>
       intro vs W hB hT hR
       obtain ⟨b, sp, sn, sc, ew, hb1, hblk, hkt⟩ := hR
       have ea : vs 16 = .int .i64 (j : Nat) := hT 16 (by decide)
       simp only [List.toList_toArray, List.take_succ_cons, List.take_zero, fill, if_true, Act.put, List.setIfInBounds_toArray, List.set_cons_zero, List.set_cons_succ, ew, ea]
       generalize vs 0 = v0
       generalize vs 1 = v1
       generalize vs 2 = v2
       generalize vs 3 = v3
       generalize vs 4 = v4
       generalize vs 5 = v5
       generalize vs 6 = v6
       generalize vs 7 = v7
       generalize vs 8 = v8
       generalize vs 9 = v9
       generalize vs 10 = v10
       generalize vs 11 = v11
       generalize vs 12 = v12
       generalize vs 13 = v13
       clear hT ew ea vs
       have HBW := hid hB
       have HB1 := hid hb1
       have HBK := hid hblk
       have HRC := hid (HR.out.below hB)
       have HKP := hid (hkt.pat VN (tyN j) 0 0)
       have q1 : W.cell? ⟨w.heap.size + 2, 2, none⟩ = some (.slice tp m tc) := by rw [zAB HRC.out.ub]; rfl
       have HLT1 : Hid (((pwTs p.t (pwK p.w N) m).map encP).length ≤ 10) := by show _ ≤ 10; rw [List.length_map, zDH]; omega
       have HLT2 : Hid (((pwTs p.t (pwK p.w N) m).map encP).length + 1 = m + 1) := by show _ + 1 = _; rw [List.length_map, zDH]
       clear hB hb1 hblk hkt
       go_upto_region 27 with (first
         | ((with_reducible show wpList _ _ _ (Oper.mk (some 136) _ _ _ _ _ :: _) _ _); refine wpList_load_mid (by rfl) 117 _ (by rfl) g (off + m * 5) (by rfl) [.int .i64 c.ty, .int .i64 c.co, .int .i64 c.n, .int .i64 c.wi, .int .i64 c.si] _ XC6.out Tryz.underlying117 rfl (by kernel_rfl) ?_)
         | ((with_reducible show wpList _ _ _ (Oper.mk _ (.store 117 _ _) _ _ _ _ :: _) _ _); refine zAY 117 w6.heap.size 0 [.int .i64 0, .int .i64 0, .int .i64 0, .int .i64 0, .int .i64 0] 117 [.int .i64 c.ty, .int .i64 c.co, .int .i64 c.n, .int .i64 c.wi, .int .i64 c.si] (heap_alloc_new _ _) ?_; intro w7 hq1 hq2; have HC7 : Hid (w7.heap[w6.heap.size]? = some (.cells #[.int .i64 c.ty, .int .i64 c.co, .int .i64 c.n, .int .i64 c.wi, .int .i64 c.si] 117 (0, 0))) := hq1; have HBL7 : Hid (Below w6.heap.size w6 w7) := zAI hq2; have HRF := hid (HRE.out.below HBL7.out); have HBK7 : Hid (w7.heap[b]? = some (.cells (ptC VN (tyN j) X.k (.slice sp sn sc) X.l X.r 0 0).toArray 48 (0, 0))) := (HBL7.out.block b (zAD HBK6.out)).trans HBK6.out; clear hq1 hq2)
         | ((with_reducible show wpList _ _ _ (Oper.mk (some 128) _ _ _ _ _ :: _) _ _); refine wpList_load_mid (by rfl) 48 _ (by rfl) b 0 (by rfl) (ptC VN (tyN j) X.k (.slice sp sn sc) X.l X.r 0 0) _ (zAJ HBK.out) Tryz.underlying48 rfl (by kernel_rfl) ?_)
         | ((with_reducible show wpList _ _ _ (Oper.mk (some 129) _ _ _ _ _ :: _) _ _); refine zCQ (by rfl) 49 1 _ (by rfl) #[(0, (ptV VN (tyN j) X.k (.slice sp sn sc) X.l X.r 0 0))] (by simp [Act.eval, Act.put]) (ptC VN (tyN j) X.k (.slice sp sn sc) X.l X.r 0 0) 48 (fun w => by kernel_rfl) ?_; intro b2 w2 hq1 hq2; have HB2 := hid hq1; have HRD := hid (HRC.out.below hq2); have HKD := hid (HKP.out.below hq2); have HBK2 : Hid (w2.heap[b]? = some (.cells (ptC VN (tyN j) X.k (.slice sp sn sc) X.l X.r 0 0).toArray 48 (0, 0))) := (hq2.block _ (zAD HBK.out)).trans HBK.out; have HBB2 := hid hq2; clear hq1 hq2)
         | ((with_reducible show wpList _ _ _ (Oper.mk (some 130) _ _ _ _ _ :: _) _ _); refine zB1 (by rfl) _ _ 49 (by rfl) w.heap.size isC 48 18 224 ip _ Tryz.underlying49 HIP.out.1 HIP.out.2.1 HIP.out.2.2.1 HIP.out.2.2.2 rfl (by omega) (by decide) (.slice tp m tc) ((pwTs p.t (pwK p.w N) m).map encP) (by rfl) HRD.out.r2 HRD.out.bel.size b2 (ptC VN (tyN j) X.k (.slice sp sn sc) X.l X.r 0 0) (by rfl) HB2.out (by rfl) (by rfl) (encP ⟨VN, tyN j, X, 0, 0⟩) HKD.out (by decide) HLT1.out (m + 1) HLT2.out ?_; intro tp5 tc5 w5 hq1 hq2 hq3; have HR5 := hid hq1; have HG5 := hid hq2; have HO5 := hid hq3; clear hq1 hq2 hq3)
         | ((with_reducible show wpList _ _ _ (Oper.mk _ (.store 49 _ _) _ _ _ _ :: _) _ _); refine zAT 49 (w.heap.size + 2) 2 [.string nm, (.slice wp N wcp), (.slice tp m tc), .slice none 0 0, (.slice kp m kc), .string ⟨#[]⟩, .slice none 0 0] 56 (.slice tp5 (m + 1) tc5) [.slice tp5 (m + 1) tc5] (HRD.out.ub_tv HG5.out) ?_; intro w6 hq1 hq2; have HRE : Hid (Ru w w6 [.slice p0 L0 c0, .slice (some ⟨g, off, none⟩) L1 c1, .slice p2 L2 c2, .slice p3 L3 c3, .int .i64 p.e] (⟨nm, pwWs p.w N, pwTs p.t (pwK p.w N) m ++ [⟨VN, tyN j, X, 0, 0⟩], [], pwUs p.t (alN N) m, ⟨txt [], []⟩⟩ : Rl) (pwK p.w N) (alN N) (.slice wp N wcp) (.slice tp5 (m + 1) tc5) (.slice none 0 0) (.slice kp m kc) (.slice np kl nc) (.slice ap N ac)) := HRD.out.app_tv HG5.out HO5.out HR5.out hq1 hq2; have HBK6 : Hid (w6.heap[b]? = some (.cells (ptC VN (tyN j) X.k (.slice sp sn sc) X.l X.r 0 0).toArray 48 (0, 0))) := (hq2.block b (Nat.lt_of_lt_of_le (zAD HBK2.out) HG5.out.size) (by have h7 := HBU.out; have h8 := HB1.out; show b ≠ w.heap.size + 2; omega)).trans ((HG5.out.block b (zAD HBK2.out) (fun h9 => by have h8 := HOW.out b h9.symm; have h7 := HB1.out; omega)).trans HBK2.out); have XC6 := hid (XCS.out w6 HRE.out.bel); have q6 : w6.cell? ⟨w.heap.size, 1, none⟩ = some (.slice (some ⟨g, off, none⟩) L1 c1) := (by rw [zAB HRE.out.pb]; rfl); clear hq1 hq2))
       generalize w6.heap.size = b15 at HC7 ⊢
       obtain ⟨q, hq⟩ : ∃ q : Nat, pkd c.n (N : Int) = (q : Int) := ⟨(pkd c.n (N : Int)).toNat, by have := zAQ c.n (m := (N : Int)) (by have := HN3.out.1; omega); omega⟩
       have hqN : q < N := by have := zAQ c.n (m := (N : Int)) (by have := HN3.out.1; omega); omega
       have HPQ := hid (fun W => zAF c.n (N : Int) W HCN.out.1 HCN.out.2 (by have := HN3.out.1; omega) (by have := HN3.out.2; omega))
       rw [hq] at HPQ
       obtain ⟨ag, ao, acq, hav, haq⟩ := nm_at HRF.out.r7 (q := q) (by rw [zBB]; exact hqN)
       rw [zBB] at hav
       obtain ⟨NM2, hNM⟩ : ∃ x, (alN N).getD q (txt []) = x := ⟨_, rfl⟩
       rw [hNM] at haq
       have HAQ := hid haq
       simp only [Value.slice.injEq] at hav
       obtain ⟨rfl, _, rfl⟩ := hav
       have e2 : pwUs p.t (alN N) (m + 1) = pwUs p.t (alN N) m ++ [(⟨VN, [bnO c], NM2⟩ : Lk)] := by
         rw [pwUs]
         unfold pwU pick
         rw [hcc, zBB, hq, Int.toNat_natCast, hNM, HJX.out.2.2]
       have e1 : pwTs p.t (pwK p.w N) (m + 1) = pwTs p.t (pwK p.w N) m ++ [⟨VN, tyN j, X, 0, 0⟩] := by rw [pwTs]; unfold pwT pwP; rw [hcc, HJX.out.1, HJX.out.2.1, HJX.out.2.2]
       have HE12 := hid (And.intro e1 e2)
       have HLU1 : Hid (((pwUs p.t (alN N) m).map encK).length ≤ 10) := by show _ ≤ 10; rw [List.length_map, zCM]; omega
       have HLU2 : Hid (((pwUs p.t (alN N) m).map encK).length + 1 = m + 1) := by show _ + 1 = _; rw [List.length_map, zCM]
       have j1 : (0 : Int) ≤ (q : Int) := by omega
       have j2 : (q : Int) < (N : Int) := by omega
       have j3 : q < N := hqN
       clear e1 e2 hq hqN haq hNM
       refine zA2 (by kernel_rfl) (fun i w9 v => ([(fun w9 v => v = .pointer (some ⟨w.heap.size + 2, 4, none⟩)), (fun w9 v => v = .slice kp m kc), (fun w9 v => v = .pointer (some ⟨b, 0, none⟩)), (fun w9 v => v = .string VN), (fun w9 v => v = .agg #[.int .i64 c.ty, .int .i64 c.co, .int .i64 c.n, .int .i64 c.wi, .int .i64 c.si]), (fun w9 v => v = .agg #[.int .i64 (bnO c).r, .int .i64 (bnO c).lo, .int .i64 (bnO c).hi]), (fun w9 v => ∃ (b5 : Nat), v = .slice (some ⟨b5, 0, none⟩) 1 1 ∧ w9.heap[b5]? = some (.cells #[.int .i64 (bnO c).r, .int .i64 (bnO c).lo, .int .i64 (bnO c).hi] 63 (0, 0)) ∧ w7.heap.size ≤ b5), (fun w9 v => v = .slice (some ⟨ag, ao, none⟩) N ac), (fun w9 v => v = .pointer (some ⟨b15, 2, none⟩)), (fun w9 v => v = .int .i64 c.n), (fun w9 v => v = .slice (some ⟨ag, ao, none⟩) N ac), (fun w9 v => v = .int .i64 (N : Nat)), (fun w9 v => v = .int .i64 (q : Nat)), (fun w9 v => v = .pointer (some ⟨ag, ao + q, none⟩)), (fun w9 v => v = .string NM2), (fun w9 v => ∃ (b5 : Nat), v = .agg #[.string VN, .slice (some ⟨b5, 0, none⟩) 1 1, .string NM2] ∧ w9.heap[b5]? = some (.cells #[.int .i64 (bnO c).r, .int .i64 (bnO c).lo, .int .i64 (bnO c).hi] 63 (0, 0)) ∧ w7.heap.size ≤ b5), (fun w9 v => ∃ (b5 b6 : Nat), v = .slice (some ⟨b6, 0, none⟩) 1 1 ∧ w9.heap[b6]? = some (.cells #[.string VN, .slice (some ⟨b5, 0, none⟩) 1 1, .string NM2] 66 (0, 0)) ∧ w9.heap[b5]? = some (.cells #[.int .i64 (bnO c).r, .int .i64 (bnO c).lo, .int .i64 (bnO c).hi] 63 (0, 0)) ∧ w7.heap.size ≤ b5), (fun w9 v => True), (fun w9 v => v = .pointer (some ⟨w.heap.size + 2, 4, none⟩))] : List (World → Value → Prop)).getD i (fun _ _ => True) w9 v) (fun W => Below w7.heap.size w7 W) 17 19 (fun w9 v => ∃ (p' : Option Addr) (c' : Nat) (Wp : World), v = .slice p' (m + 1) c' ∧ Below w7.heap.size w7 Wp ∧ Wp.grownBy w9 (Value.slice kp m kc).ownBlock ∧ ((Value.slice p' (m + 1) c').ownBlock = (Value.slice kp m kc).ownBlock ∨ (Value.slice p' (m + 1) c').ownBlock = some Wp.heap.size) ∧ RwT w9 w.heap.size isQ 66 3 (.slice p' (m + 1) c') ((pwUs p.t (alN N) m).map encK ++ [encK (⟨VN, [bnO c], NM2⟩ : Lk)])) 323 rfl rfl (by decide) [some 137, some 138, some 139, some 140, some 141, some 142, some 143, some 144, some 145, some 146, some 147, some 148, some 149, some 150, some 151, some 152, some 153, some 154, some 155] (by kernel_rfl) 51 (.tmp 155) (.tmp 154) (by rfl) (by rfl) (by kernel_rfl) (by kernel_rfl) (by kernel_rfl) (fun W W' => Below W.heap.size W W') ?hmon ?hpi (Below.drew (Below.refl _ _)) (zAC.cons ?o0 (zAC.cons ?o1 (zAC.cons ?o2 (zAC.cons ?o3 (zAC.cons ?o4 (zAC.cons ?o5 (zAC.cons ?o6 (zAC.cons ?o7 (zAC.cons ?o8 (zAC.cons ?o9 (zAC.cons ?o10 (zAC.cons ?o11 (zAC.cons ?o12 (zAC.cons ?o13 (zAC.cons ?o14 (zAC.cons ?o15 (zAC.cons ?o16 (zAC.cons ?o17 (zAC.cons ?o18 (zAC.cons ?o19 zAC.nil)))))))))))))))))))) ?hS ?hend
       case hmon =>
         intro q W W' v hb h
         rcases q with _ | _ | _ | _ | _ | _ | _ | _ | _ | _ | _ | _ | _ | _ | _ | _ | _ | _ | _ | q
         . exact h
         . exact h
         . exact h
         . exact h
         . exact h
         . exact h
         . obtain ⟨b5, e, h1, h2⟩ := h; exact ⟨b5, e, (hb.block _ (zAD h1)).trans h1, h2⟩
         . exact h
         . exact h
         . exact h
         . exact h
         . exact h
         . exact h
         . exact h
         . exact h
         . obtain ⟨b5, e, h1, h2⟩ := h; exact ⟨b5, e, (hb.block _ (zAD h1)).trans h1, h2⟩
         . obtain ⟨b5, b6, e, h0, h1, h2⟩ := h; exact ⟨b5, b6, e, (hb.block _ (zAD h0)).trans h0, (hb.block _ (zAD h1)).trans h1, h2⟩
         . exact h
         . exact h
         . exact h
       case hpi =>
         intro q W W' v hq h
         rcases q with _ | _ | _ | _ | _ | _ | _ | _ | _ | _ | _ | _ | _ | _ | _ | _ | _ | _ | _ | _ | q
         . exact absurd hq (by decide)
         . exact absurd hq (by decide)
         . exact absurd hq (by decide)
         . exact absurd hq (by decide)
         . exact absurd hq (by decide)
         . exact absurd hq (by decide)
         . exact absurd hq (by decide)
         . exact absurd hq (by decide)
         . exact absurd hq (by decide)
         . exact absurd hq (by decide)
         . exact absurd hq (by decide)
         . exact absurd hq (by decide)
         . exact absurd hq (by decide)
         . exact absurd hq (by decide)
         . exact absurd hq (by decide)
         . exact absurd hq (by decide)
         . exact absurd hq (by decide)
         . exact absurd hq (by decide)
         . exact h
         . exact h
         . exact h
       case o0 =>
         intro _ _ a W hB hd ho
         replace hB := hB (by decide)
         have e5 : a.eval (.tmp 5) = .pointer (some ⟨w.heap.size + 2, 0, none⟩) := ho 5 (by kernel_rfl)
         exact zAK (.pointer (some ⟨w.heap.size + 2, 4, none⟩)) (by unfold execOp; simp only [ev_c, e5]; go_simp) ⟨_, rfl, rfl, fun _ => hB, fun _ => Below.refl _ _, fun _ => rfl⟩
       case o1 =>
         intro _ _ a W hB hd ho
         replace hB := hB (by decide)
         have e137 : a.eval (.tmp 137) = .pointer (some ⟨w.heap.size + 2, 4, none⟩) := hd 0 137 (by kernel_rfl) (by decide)
         have c9 : W.cell? ⟨w.heap.size + 2, 4, none⟩ = some (.slice kp m kc) := by
           rw [zAB ((hB.block _ (zAD HRF.out.ub)).trans HRF.out.ub)]
           rfl
         exact zAK (.slice kp m kc) (by unfold execOp; simp only [ev_c, e137]; go_simp) ⟨_, rfl, rfl, fun _ => hB, fun _ => Below.refl _ _, fun _ => rfl⟩
       case o2 =>
         intro _ _ a W hB hd ho
         replace hB := hB (by decide)
         have e13 : a.eval (.tmp 13) = .pointer (some ⟨b, 0, none⟩) := ho 13 (by kernel_rfl)
         exact zAK (.pointer (some ⟨b, 0, none⟩)) (by unfold execOp; simp only [ev_c, e13]; go_simp) ⟨_, rfl, rfl, fun _ => hB, fun _ => Below.refl _ _, fun _ => rfl⟩
       case o3 =>
         intro _ _ a W hB hd ho
         replace hB := hB (by decide)
         have e139 : a.eval (.tmp 139) = .pointer (some ⟨b, 0, none⟩) := hd 2 139 (by kernel_rfl) (by decide)
         have c9 : W.cell? ⟨b, 0, none⟩ = some (.string VN) := by
           rw [zAB ((hB.block _ (zAD HBK7.out)).trans HBK7.out)]
           rfl
         exact zAK (.string VN) (by unfold execOp; simp only [ev_c, e139]; go_simp) ⟨_, rfl, rfl, fun _ => hB, fun _ => Below.refl _ _, fun _ => rfl⟩
       case o4 =>
         intro _ _ a W hB hd ho
         replace hB := hB (by decide)
         have e15 : a.eval (.tmp 15) = .pointer (some ⟨b15, 0, none⟩) := ho 15 (by kernel_rfl)
         exact zBZ 117 _ rfl b15 0 e15 [.int .i64 c.ty, .int .i64 c.co, .int .i64 c.n, .int .i64 c.wi, .int .i64 c.si] _ (zAJ ((hB.block _ (zAD HC7.out)).trans HC7.out)) Tryz.underlying117 rfl (by kernel_rfl) ⟨_, rfl, rfl, fun _ => hB, fun _ => Below.refl _ _, fun _ => rfl⟩
       case o5 =>
         intro _ _ a W hB hd ho
         replace hB := hB (by decide)
         have e141 : a.eval (.tmp 141) = .agg #[.int .i64 c.ty, .int .i64 c.co, .int .i64 c.n, .int .i64 c.wi, .int .i64 c.si] := hd 4 141 (by kernel_rfl) (by decide)
         refine zA0 39 ent_bnd _ _ rfl #[.agg #[.int .i64 c.ty, .int .i64 c.co, .int .i64 c.n, .int .i64 c.wi, .int .i64 c.si]] (by simp [ev_c, e141]) _ (HBO.out W) ?_
         rintro e W' ⟨rfl, hal⟩
         exact ⟨_, rfl, _, rfl, rfl, fun _ => zAA hB hal hB.size, fun _ => hal, fun h9 => absurd h9 (by decide)⟩
       case o6 =>
         intro _ _ a W hB hd ho
         replace hB := hB (by decide)
         have e142 : a.eval (.tmp 142) = .agg #[.int .i64 (bnO c).r, .int .i64 (bnO c).lo, .int .i64 (bnO c).hi] := hd 5 142 (by kernel_rfl) (by decide)
         have hal : Below W.heap.size W (W.alloc (.cells #[.int .i64 (bnO c).r, .int .i64 (bnO c).lo, .int .i64 (bnO c).hi] 63)) := (Below.refl _ _).alloc (Nat.le_refl _) _
         refine zBT 64 1 _ rfl #[(0, .agg #[.int .i64 (bnO c).r, .int .i64 (bnO c).lo, .int .i64 (bnO c).hi])] (by simp [ev_c, e142]) (.slice (some ⟨W.heap.size, 0, none⟩) 1 1) (W.alloc (.cells #[.int .i64 (bnO c).r, .int .i64 (bnO c).lo, .int .i64 (bnO c).hi] 63)) (by kernel_rfl) ⟨_, rfl, ⟨W.heap.size, rfl, heap_alloc_new _ _, hB.size⟩, fun _ => zAA hB hal hB.size, fun _ => hal, fun h9 => absurd h9 (by decide)⟩
       case o7 =>
         intro _ _ a W hB hd ho
         replace hB := hB (by decide)
         have e7 : a.eval (.tmp 7) = (.slice (some ⟨ag, ao, none⟩) N ac) := ho 7 (by kernel_rfl)
         exact zA1 _ (by simp) _ e7 ⟨_, rfl, rfl, fun _ => hB, fun _ => Below.refl _ _, fun _ => rfl⟩
       case o8 =>
         intro _ _ a W hB hd ho
         replace hB := hB (by decide)
         have e15 : a.eval (.tmp 15) = .pointer (some ⟨b15, 0, none⟩) := ho 15 (by kernel_rfl)
         exact zAK (.pointer (some ⟨b15, 2, none⟩)) (by unfold execOp; simp only [ev_c, e15]; go_simp) ⟨_, rfl, rfl, fun _ => hB, fun _ => Below.refl _ _, fun _ => rfl⟩
       case o9 =>
         intro _ _ a W hB hd ho
         replace hB := hB (by decide)
         have e145 : a.eval (.tmp 145) = .pointer (some ⟨b15, 2, none⟩) := hd 8 145 (by kernel_rfl) (by decide)
         have c9 : W.cell? ⟨b15, 2, none⟩ = some (.int .i64 c.n) := by
           rw [zAB ((hB.block _ (zAD HC7.out)).trans HC7.out)]
           rfl
         exact zAK (.int .i64 c.n) (by unfold execOp; simp only [ev_c, e145]; go_simp) ⟨_, rfl, rfl, fun _ => hB, fun _ => Below.refl _ _, fun _ => rfl⟩
       case o10 =>
         intro _ _ a W hB hd ho
         replace hB := hB (by decide)
         have e7 : a.eval (.tmp 7) = (.slice (some ⟨ag, ao, none⟩) N ac) := ho 7 (by kernel_rfl)
         exact zA1 _ (by simp) _ e7 ⟨_, rfl, rfl, fun _ => hB, fun _ => Below.refl _ _, fun _ => rfl⟩
       case o11 =>
         intro _ _ a W hB hd ho
         replace hB := hB (by decide)
         have e147 : a.eval (.tmp 147) = (.slice (some ⟨ag, ao, none⟩) N ac) := hd 10 147 (by kernel_rfl) (by decide)
         have e147' : a.tmps[147]?.getD undef = (.slice (some ⟨ag, ao, none⟩) N ac) := by simpa [Act.eval] using e147
         exact zAK (.int .i64 (N : Nat)) (by unfold execOp; simp only [ev_c, e147]; go_simp) ⟨_, rfl, rfl, fun _ => hB, fun _ => Below.refl _ _, fun _ => rfl⟩
       case o12 =>
         intro _ _ a W hB hd ho
         replace hB := hB (by decide)
         have e146 : a.eval (.tmp 146) = .int .i64 c.n := hd 9 146 (by kernel_rfl) (by decide)
         have e148 : a.eval (.tmp 148) = .int .i64 (N : Nat) := hd 11 148 (by kernel_rfl) (by decide)
         refine zA0 9 zHA _ _ rfl #[.int .i64 c.n, .int .i64 (N : Nat)] (by simp [e146, e148]) _ (HPQ.out W) ?_
         rintro e W' ⟨rfl, rfl⟩
         exact ⟨_, rfl, _, rfl, rfl, fun _ => hB, fun _ => Below.refl _ _, fun _ => rfl⟩
       case o13 =>
         intro _ _ a W hB hd ho
         replace hB := hB (by decide)
         have e144 : a.eval (.tmp 144) = (.slice (some ⟨ag, ao, none⟩) N ac) := hd 7 144 (by kernel_rfl) (by decide)
         have e149 : a.eval (.tmp 149) = .int .i64 (q : Nat) := hd 12 149 (by kernel_rfl) (by decide)
         exact zAK (.pointer (some ⟨ag, ao + q, none⟩)) (by unfold execOp; simp only [ev_c, e144, e149]; go_simp) ⟨_, rfl, rfl, fun _ => hB, fun _ => Below.refl _ _, fun _ => rfl⟩
       case o14 =>
         intro _ _ a W hB hd ho
         replace hB := hB (by decide)
         have e150 : a.eval (.tmp 150) = .pointer (some ⟨ag, ao + q, none⟩) := hd 13 150 (by kernel_rfl) (by decide)
         have c9 : W.cell? ⟨ag, ao + q, none⟩ = some (.string NM2) := HAQ.out W hB
         exact zAK (.string NM2) (by unfold execOp; simp only [ev_c, e150]; go_simp) ⟨_, rfl, rfl, fun _ => hB, fun _ => Below.refl _ _, fun _ => rfl⟩
       case o15 =>
         intro _ _ a W hB hd ho
         replace hB := hB (by decide)
         have e140 : a.eval (.tmp 140) = .string VN := hd 3 140 (by kernel_rfl) (by decide)
         obtain ⟨b5, e143, h1, h2⟩ : ∃ (b5 : Nat), a.eval (.tmp 143) = .slice (some ⟨b5, 0, none⟩) 1 1 ∧ W.heap[b5]? = some (.cells #[.int .i64 (bnO c).r, .int .i64 (bnO c).lo, .int .i64 (bnO c).hi] 63 (0, 0)) ∧ w7.heap.size ≤ b5 := hd 6 143 (by kernel_rfl) (by decide)
         have e151 : a.eval (.tmp 151) = .string NM2 := hd 14 151 (by kernel_rfl) (by decide)
         exact zCC 66 _ rfl #[(0, .string VN), (1, .slice (some ⟨b5, 0, none⟩) 1 1), (2, .string NM2)] (by simp [ev_c, e140, e143, e151]) (.agg #[.string VN, .slice (some ⟨b5, 0, none⟩) 1 1, .string NM2]) (by kernel_rfl) ⟨_, rfl, ⟨b5, rfl, h1, h2⟩, fun _ => hB, fun _ => Below.refl _ _, fun _ => rfl⟩
       case o16 =>
         intro _ _ a W hB hd ho
         replace hB := hB (by decide)
         obtain ⟨b5, e152, h1, h2⟩ : ∃ (b5 : Nat), a.eval (.tmp 152) = .agg #[.string VN, .slice (some ⟨b5, 0, none⟩) 1 1, .string NM2] ∧ W.heap[b5]? = some (.cells #[.int .i64 (bnO c).r, .int .i64 (bnO c).lo, .int .i64 (bnO c).hi] 63 (0, 0)) ∧ w7.heap.size ≤ b5 := hd 15 152 (by kernel_rfl) (by decide)
         have hal : Below W.heap.size W (W.alloc (.cells #[.string VN, .slice (some ⟨b5, 0, none⟩) 1 1, .string NM2] 66)) := (Below.refl _ _).alloc (Nat.le_refl _) _
         refine zBT 51 1 _ rfl #[(0, .agg #[.string VN, .slice (some ⟨b5, 0, none⟩) 1 1, .string NM2])] (by simp [ev_c, e152]) (.slice (some ⟨W.heap.size, 0, none⟩) 1 1) (W.alloc (.cells #[.string VN, .slice (some ⟨b5, 0, none⟩) 1 1, .string NM2] 66)) (by kernel_rfl) ⟨_, rfl, ⟨b5, W.heap.size, rfl, heap_alloc_new _ _, (hal.block _ (zAD h1)).trans h1, h2⟩, fun _ => zAA hB hal hB.size, fun _ => hal, fun h9 => absurd h9 (by decide)⟩
       case o17 =>
         intro h9; exact absurd rfl h9
       case o18 =>
         intro _ _ a W hB hd ho
         have e5 : a.eval (.tmp 5) = .pointer (some ⟨w.heap.size + 2, 0, none⟩) := ho 5 (by kernel_rfl)
         exact zAK (.pointer (some ⟨w.heap.size + 2, 4, none⟩)) (by unfold execOp; simp only [ev_c, e5]; go_simp) ⟨_, rfl, rfl, fun h9 => absurd h9 (by decide), fun h9 => absurd h9 (by decide), fun _ => rfl⟩
       case o19 =>
         intro _ h9; exact absurd rfl h9
       case hS =>
         intro a W vs hB hT hd hout
         have e1 : vs 1 = .slice kp m kc := hT 1 (by decide)
         obtain ⟨b5, b6, e16, h0, h1, h2⟩ : ∃ (b5 b6 : Nat), vs 16 = .slice (some ⟨b6, 0, none⟩) 1 1 ∧ W.heap[b6]? = some (.cells #[.string VN, .slice (some ⟨b5, 0, none⟩) 1 1, .string NM2] 66 (0, 0)) ∧ W.heap[b5]? = some (.cells #[.int .i64 (bnO c).r, .int .i64 (bnO c).lo, .int .i64 (bnO c).hi] 63 (0, 0)) ∧ w7.heap.size ≤ b5 := hT 16 (by decide)
         have hrw := HRF.out.below hB
         refine zCI _ _ 51 rfl w.heap.size isQ 66 3 56 ik _ Tryz.underlying51 HIK.out.1 HIK.out.2.1 HIK.out.2.2.1 HIK.out.2.2.2 rfl (by omega) (by decide) (.slice kp m kc) ((pwUs p.t (alN N) m).map encK) ((hd 1 138 (by kernel_rfl)).trans e1) hrw.r4 hrw.bel.size b6 [.string VN, .slice (some ⟨b5, 0, none⟩) 1 1, .string NM2] ((hd 16 153 (by kernel_rfl)).trans e16) h0 rfl rfl (encK (⟨VN, [bnO c], NM2⟩ : Lk)) (zJO (by have := HRF.out.bel.size; omega) h1) (by decide) HLU1.out (m + 1) HLU2.out ?_
         intro p' c' W' k1 k2 k3
         exact ⟨_, rfl, p', c', W, rfl, hB, k2, k3, k1⟩
       case hend =>
         intro vs W hB2 hT
         obtain ⟨p', c', Wp, e17, k1, k2, k3, k4⟩ := hB2
         have e18 : vs 18 = .pointer (some ⟨w.heap.size + 2, 4, none⟩) := hT 18 (by decide) (by decide)
         refine ⟨w.heap.size + 2, 4, [.string nm, (.slice wp N wcp), (.slice tp5 (m + 1) tc5), .slice none 0 0, (.slice kp m kc), .string ⟨#[]⟩, .slice none 0 0], 56, .slice p' (m + 1) c', [.slice p' (m + 1) c'], Eq.trans (b := vs 18) (by kernel_rfl) e18, Eq.trans (b := vs 17) (by kernel_rfl) e17, rfl, (HRF.out.below k1).ub_kv k2, by simp, by kernel_rfl, rfl, ?_⟩
         intro w8 hq1 hq2
         have HRG := hid ((HRF.out.below k1).app_kv k2 k3 k4 hq1 hq2)
         clear hq1 hq2 k1 k2 k3 k4 hT
         simp only [zB0, Act.put, List.setIfInBounds_toArray, e17, e18]
         simp only [zBJ]
         simp only [List.set_cons_zero, List.set_cons_succ]
         clear e17 e18
         generalize vs 0 = v0
         generalize vs 1 = v1
         generalize vs 2 = v2
         generalize vs 3 = v3
         generalize vs 4 = v4
         generalize vs 5 = v5
         generalize vs 6 = v6
         generalize vs 7 = v7
         generalize vs 8 = v8
         generalize vs 9 = v9
         generalize vs 10 = v10
         generalize vs 11 = v11
         generalize vs 12 = v12
         generalize vs 13 = v13
         generalize vs 14 = v14
         generalize vs 15 = v15
         generalize vs 16 = v16
         clear vs
         go_wp2_with fail
         go_roundg (M1 + 1 - (m + 1))
         case rel =>
           refine ⟨m + 1, tp5, p', tc5, c', HLT.out, rfl, by go_num, ?_⟩
           rw [HE12.out.1, HE12.out.2]
           exact HRG.out
         case measure => omega
  . obtain rfl : M1 = m := by omega
    go_upto_region 22 with fail
    go_cut [109] from 101 to 155 (fun s wx => s = .bool false ∧ wr = wx)
    case first =>
     have q1 : wr.cell? ⟨w.heap.size, 1, none⟩ = some (.slice p1 L1 c1) := by rw [zAB HR.out.pb]; rfl
     by_cases h3 : M1 < L1
     . have e1 : decide (M1 < L1) = true := by simpa using h3
       have e2 : decide ((M1 : Int) < 2) = false := by have := HM1.out; simp; omega
       clear hlt h3
       go_wp2_with fail
       go_meet
       exact ⟨rfl, rfl⟩
     . have e1 : decide (M1 < L1) = false := by simpa using h3
       clear hlt h3
       go_wp2_with fail
       go_meet
       exact ⟨rfl, rfl⟩
    case rest =>
     obtain ⟨rfl, rfl⟩ := hcut
     go_wp2_with fail
     exact HX.out tp kp tc kc _ _ _ _ _ _ _ _ _ _ _ _ _ _ _ _ _ _ _ _ _ _ _ _ _ _ _ _ _ _ _ _ _ _ _ _ _ _ _ _ _ _ _ _ _ _ _ _ _ _ _ _ _ _ _ _ _ _ _ HR.out
end Go.Proofs.YtnlmknbhppdliaaGreatDoor.Chk
