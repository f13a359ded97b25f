/-
  A rule of raw numbers: a loop.
-/
import Derived.Test.YtnlmknbhppdliaaGreatDoorKe
set_option maxHeartbeats 64000000
namespace Go.Proofs.YtnlmknbhppdliaaGreatDoor.Chk
open Go.ChangeShapes Go.WideShapes Go.ChangeAt Go.RowKit Go.Maps
set_option linter.unusedVariables false
set_option linter.unusedSimpArgs false
set_option maxRecDepth 20000
theorem rule_l1 (nm : ByteArray) (p : Plt) (hp : p.ok) (p0 : Option Addr) (c0 : Nat) (p1 : Option Addr) (c1 : Nat) (p2 : Option Addr) (c2 : Nat) (p3 : Option Addr) (c3 : Nat) (w : World) (N L0 L1 L2 L3 M1 M2 MB : Nat) (ip is im ik iq : TypeInfo)
  (HA0 : Hid (At zBC 5 w p0 p.w)) (HA1 : Hid (At zBC 5 w p1 p.t)) (HA2 : Hid (At zBC 5 w p2 p.m)) (HA3 : Hid (At zDG 6 w p3 p.b))
  (HNN : Hid (pwL p.w = N)) (HN3 : Hid (1 ≤ N ∧ N ≤ 3)) (HL0 : Hid (p.w.length = L0)) (HL1 : Hid (p.t.length = L1)) (HL2 : Hid (p.m.length = L2)) (HL3 : Hid (p.b.length = L3)) (HN0 : Hid (∀ k, k < N → k ≠ 0 → k < L0)) (HN1 : Hid (N < 3 → N ≠ 0 ∧ ¬ N < L0)) (HM1 : Hid (min L1 2 = M1)) (HM2 : Hid (min L2 2 = M2)) (HMBB : Hid (pwB p = MB)) (HMB : Hid ((N = 1 → MB = 0) ∧ (N ≠ 1 → MB = min L3 (6 - M1))))
  (HIP : Hid (Tryz.prog.info? 48 = some ip ∧ ip.zero = some zP ∧ ip.size = 18 ∧ ip.bytes = 224)) (HIS : Hid (Tryz.prog.info? 9 = some is ∧ is.zero = some (.string ByteArray.empty) ∧ is.size = 1 ∧ is.bytes = 16)) (HIM : Hid (Tryz.prog.info? 78 = some im ∧ im.zero = some zM ∧ im.size = 20 ∧ im.bytes = 248)) (HIK : Hid (Tryz.prog.info? 66 = some ik ∧ ik.zero = some (.agg #[.string ByteArray.empty, .slice none 0 0, .string ByteArray.empty]) ∧ ik.size = 3 ∧ ik.bytes = 56)) (HIQ : Hid (Tryz.prog.info? 63 = some iq ∧ iq.zero = some (.agg #[.int .i64 0, .int .i64 0, .int .i64 0]) ∧ iq.size = 3 ∧ iq.bytes = 24))
     (w6 : World) (HR0 : Hid (Ru w w6 [.slice p0 L0 c0, .slice p1 L1 c1, .slice p2 L2 c2, .slice p3 L3 c3, .int .i64 p.e] (⟨nm, [], [], [], [], ⟨txt [], []⟩⟩ : Rl) [] [] (.slice none 0 0) (.slice none 0 0) (.slice none 0 0) (.slice none 0 0) (.slice none 0 0) (.slice none 0 0)))
  {Q : Exit → Act → World → Prop} (f0 f1 f2 f4 f9 f10 f11 f12 f13 f14 f15 f16 f17 f18 f19 f20 f21 f22 f23 f24 f25 f26 f27 f28 f29 f30 f31 f32 f33 f34 f35 f36 f37 f38 f39 f40 f41 f42 f43 f44 f45 f46 f47 f48 f49 f50 f51 f52 f53 f54 f55 f56 f57 f58 f59 f60 f61 f62 f63 f64 f65 f66 f67 f68 f69 f70 f71 f72 f73 f74 f75 f76 f77 f78 f79 f80 f81 f82 f83 f84 f85 f86 f87 f88 f89 f90 f91 f92 f93 f94 f95 f96 f97 f98 f99 f100 f101 f102 f103 f104 f105 f106 f107 f108 f109 f110 f111 f112 f113 f114 f115 f116 f117 f118 f119 f120 f121 f122 f123 f124 f125 f126 f127 f128 f129 f130 f131 f132 f133 f134 f135 f136 f137 f138 f139 f140 f141 f142 f143 f144 f145 f146 f147 f148 f149 f150 f151 f152 f153 f154 f155 f156 f157 f158 f159 f160 f161 f162 f163 f164 f165 f166 f167 f168 f169 f170 f171 f172 f173 f174 f175 f176 f177 f178 f179 f180 f181 f182 f183 f184 f185 f186 f187 f188 f189 f190 f191 f192 f193 f194 f195 f196 f197 f198 f199 f200 f201 f202 f203 f204 f205 f206 f207 f208 f209 f210 f211 f212 f213 f214 f215 f216 f217 f218 f219 f220 f221 f222 f223 f224 f225 f226 f227 f228 f229 f230 f231 f232 f233 f234 f235 f236 f237 f238 f239 f240 f241 f242 f243 f244 f245 f246 f247 f248 f249 f250 f251 f252 f253 f254 f255 f256 f257 f258 f259 f260 f261 f262 f263 f264 f265 f266 f267 f268 f269 f270 f271 f272 f273 f274 f275 f276 f277 f278 f279 f280 f281 f282 f283 f284 f285 f286 f287 f288 f289 f290 f291 f292 f293 f294 f295 f296 f297 f298 f299 f300 f301 f302 f303 f304 f305 f306 f307 f308 f309 f310 f311 f312 f313 f314 f315 f316 f317 f318 f319 f320 f321 f322 : Value)
  (hexit : ∀ (kl : Nat) (wp np ap : Option Addr) (wcp nc ac : Nat) (wr : World) (g9 g10 g11 g27 g28 g29 g30 g31 g32 g33 g34 g35 g36 g37 g38 g39 g40 g41 g42 g43 g44 g45 g46 g47 g48 g49 g50 g51 g52 g53 g54 g55 g56 g57 g58 g59 g60 g61 g62 g63 g64 g65 g66 g67 g68 g69 g70 g71 g72 g73 g74 g75 g76 g77 g78 g79 g80 g81 g82 g83 g84 g85 g86 g87 g88 g89 g90 g91 g92 g93 g94 g95 g96 g97 g98 g99 g100 : Value), (pwK p.w N).length = kl → Ru w wr [.slice p0 L0 c0, .slice p1 L1 c1, .slice p2 L2 c2, .slice p3 L3 c3, .int .i64 p.e] (⟨nm, pwWs p.w N, [], [], [], ⟨txt [], []⟩⟩ : Rl) (pwK p.w N) (alN N) (.slice wp N wcp) (.slice none 0 0) (.slice none 0 0) (.slice none 0 0) (.slice np kl nc) (.slice ap N ac) → Q (.exit 0) ⟨List.toArray (f0 :: f1 :: f2 :: (.pointer (some ⟨w.heap.size, 0, none⟩)) :: f4 :: (.pointer (some ⟨w.heap.size + 2, 0, none⟩)) :: (.slice np kl nc) :: (.slice ap N ac) :: (.int .i64 (N : Nat)) :: g9 :: g10 :: g11 :: f12 :: f13 :: f14 :: f15 :: f16 :: f17 :: f18 :: f19 :: f20 :: f21 :: f22 :: f23 :: f24 :: f25 :: f26 :: g27 :: g28 :: g29 :: g30 :: g31 :: g32 :: g33 :: g34 :: g35 :: g36 :: g37 :: g38 :: g39 :: g40 :: g41 :: g42 :: g43 :: g44 :: g45 :: g46 :: g47 :: g48 :: g49 :: g50 :: g51 :: g52 :: g53 :: g54 :: g55 :: g56 :: g57 :: g58 :: g59 :: g60 :: g61 :: g62 :: g63 :: g64 :: g65 :: g66 :: g67 :: g68 :: g69 :: g70 :: g71 :: g72 :: g73 :: g74 :: g75 :: g76 :: g77 :: g78 :: g79 :: g80 :: g81 :: g82 :: g83 :: g84 :: g85 :: g86 :: g87 :: g88 :: g89 :: g90 :: g91 :: g92 :: g93 :: g94 :: g95 :: g96 :: g97 :: g98 :: g99 :: g100 :: f101 :: f102 :: f103 :: f104 :: f105 :: f106 :: f107 :: f108 :: f109 :: f110 :: f111 :: f112 :: f113 :: f114 :: f115 :: f116 :: f117 :: f118 :: f119 :: f120 :: f121 :: f122 :: f123 :: f124 :: f125 :: f126 :: f127 :: f128 :: f129 :: f130 :: f131 :: f132 :: f133 :: f134 :: f135 :: f136 :: f137 :: f138 :: f139 :: f140 :: f141 :: f142 :: f143 :: f144 :: f145 :: f146 :: f147 :: f148 :: f149 :: f150 :: f151 :: f152 :: f153 :: f154 :: f155 :: f156 :: f157 :: f158 :: f159 :: f160 :: f161 :: f162 :: f163 :: f164 :: f165 :: f166 :: f167 :: f168 :: f169 :: f170 :: f171 :: f172 :: f173 :: f174 :: f175 :: f176 :: f177 :: f178 :: f179 :: f180 :: f181 :: f182 :: f183 :: f184 :: f185 :: f186 :: f187 :: f188 :: f189 :: f190 :: f191 :: f192 :: f193 :: f194 :: f195 :: f196 :: f197 :: f198 :: f199 :: f200 :: f201 :: f202 :: f203 :: f204 :: f205 :: f206 :: f207 :: f208 :: f209 :: f210 :: f211 :: f212 :: f213 :: f214 :: f215 :: f216 :: f217 :: f218 :: f219 :: f220 :: f221 :: f222 :: f223 :: f224 :: f225 :: f226 :: f227 :: f228 :: f229 :: f230 :: f231 :: f232 :: f233 :: f234 :: f235 :: f236 :: f237 :: f238 :: f239 :: f240 :: f241 :: f242 :: f243 :: f244 :: f245 :: f246 :: f247 :: f248 :: f249 :: f250 :: f251 :: f252 :: f253 :: f254 :: f255 :: f256 :: f257 :: f258 :: f259 :: f260 :: f261 :: f262 :: f263 :: f264 :: f265 :: f266 :: f267 :: f268 :: f269 :: f270 :: f271 :: f272 :: f273 :: f274 :: f275 :: f276 :: f277 :: f278 :: f279 :: f280 :: f281 :: f282 :: f283 :: f284 :: f285 :: f286 :: f287 :: f288 :: f289 :: f290 :: f291 :: f292 :: f293 :: f294 :: f295 :: f296 :: f297 :: f298 :: f299 :: f300 :: f301 :: f302 :: f303 :: f304 :: f305 :: f306 :: f307 :: f308 :: f309 :: f310 :: f311 :: f312 :: f313 :: f314 :: f315 :: f316 :: f317 :: f318 :: f319 :: f320 :: f321 :: f322 :: []), []⟩ wr) :
  Code.wp Tryz.prog (lpn Tryz.f18 0) Q ⟨List.toArray (f0 :: f1 :: f2 :: (.pointer (some ⟨w.heap.size, 0, none⟩)) :: f4 :: (.pointer (some ⟨w.heap.size + 2, 0, none⟩)) :: (.slice none 0 0) :: (.slice none 0 0) :: (.int .i64 0) :: f9 :: f10 :: f11 :: f12 :: f13 :: f14 :: f15 :: f16 :: f17 :: f18 :: f19 :: f20 :: f21 :: f22 :: f23 :: f24 :: f25 :: f26 :: f27 :: f28 :: f29 :: f30 :: f31 :: f32 :: f33 :: f34 :: f35 :: f36 :: f37 :: f38 :: f39 :: f40 :: f41 :: f42 :: f43 :: f44 :: f45 :: f46 :: f47 :: f48 :: f49 :: f50 :: f51 :: f52 :: f53 :: f54 :: f55 :: f56 :: f57 :: f58 :: f59 :: f60 :: f61 :: f62 :: f63 :: f64 :: f65 :: f66 :: f67 :: f68 :: f69 :: f70 :: f71 :: f72 :: f73 :: f74 :: f75 :: f76 :: f77 :: f78 :: f79 :: f80 :: f81 :: f82 :: f83 :: f84 :: f85 :: f86 :: f87 :: f88 :: f89 :: f90 :: f91 :: f92 :: f93 :: f94 :: f95 :: f96 :: f97 :: f98 :: f99 :: f100 :: f101 :: f102 :: f103 :: f104 :: f105 :: f106 :: f107 :: f108 :: f109 :: f110 :: f111 :: f112 :: f113 :: f114 :: f115 :: f116 :: f117 :: f118 :: f119 :: f120 :: f121 :: f122 :: f123 :: f124 :: f125 :: f126 :: f127 :: f128 :: f129 :: f130 :: f131 :: f132 :: f133 :: f134 :: f135 :: f136 :: f137 :: f138 :: f139 :: f140 :: f141 :: f142 :: f143 :: f144 :: f145 :: f146 :: f147 :: f148 :: f149 :: f150 :: f151 :: f152 :: f153 :: f154 :: f155 :: f156 :: f157 :: f158 :: f159 :: f160 :: f161 :: f162 :: f163 :: f164 :: f165 :: f166 :: f167 :: f168 :: f169 :: f170 :: f171 :: f172 :: f173 :: f174 :: f175 :: f176 :: f177 :: f178 :: f179 :: f180 :: f181 :: f182 :: f183 :: f184 :: f185 :: f186 :: f187 :: f188 :: f189 :: f190 :: f191 :: f192 :: f193 :: f194 :: f195 :: f196 :: f197 :: f198 :: f199 :: f200 :: f201 :: f202 :: f203 :: f204 :: f205 :: f206 :: f207 :: f208 :: f209 :: f210 :: f211 :: f212 :: f213 :: f214 :: f215 :: f216 :: f217 :: f218 :: f219 :: f220 :: f221 :: f222 :: f223 :: f224 :: f225 :: f226 :: f227 :: f228 :: f229 :: f230 :: f231 :: f232 :: f233 :: f234 :: f235 :: f236 :: f237 :: f238 :: f239 :: f240 :: f241 :: f242 :: f243 :: f244 :: f245 :: f246 :: f247 :: f248 :: f249 :: f250 :: f251 :: f252 :: f253 :: f254 :: f255 :: f256 :: f257 :: f258 :: f259 :: f260 :: f261 :: f262 :: f263 :: f264 :: f265 :: f266 :: f267 :: f268 :: f269 :: f270 :: f271 :: f272 :: f273 :: f274 :: f275 :: f276 :: f277 :: f278 :: f279 :: f280 :: f281 :: f282 :: f283 :: f284 :: f285 :: f286 :: f287 :: f288 :: f289 :: f290 :: f291 :: f292 :: f293 :: f294 :: f295 :: f296 :: f297 :: f298 :: f299 :: f300 :: f301 :: f302 :: f303 :: f304 :: f305 :: f306 :: f307 :: f308 :: f309 :: f310 :: f311 :: f312 :: f313 :: f314 :: f315 :: f316 :: f317 :: f318 :: f319 :: f320 :: f321 :: f322 :: []), []⟩ w6 := by
 have HX := hid hexit
 clear hexit
 conv => arg 2; whnf
 go_loopg [6, 7, 8] (N + 1) (fun gg s6 s7 s8 wr => ∃ (k kl : Nat) (wp np ap : Option Addr) (wc nc ac : Nat), k ≤ N ∧ gg = N + 1 - k ∧ s6 = .slice np kl nc ∧ s7 = .slice ap k ac ∧ s8 = .int .i64 (k : Nat) ∧ (pwK p.w k).length = kl ∧ Ru w wr [.slice p0 L0 c0, .slice p1 L1 c1, .slice p2 L2 c2, .slice p3 L3 c3, .int .i64 p.e] (⟨nm, pwWs p.w k, [], [], [], ⟨txt [], []⟩⟩ : Rl) (pwK p.w k) (alN k) (.slice wp k wc) (.slice none 0 0) (.slice none 0 0) (.slice none 0 0) (.slice np kl nc) (.slice ap k ac))
 case atStart => exact ⟨0, 0, none, none, none, 0, 0, 0, by omega, by omega, rfl, rfl, rfl, rfl, HR0.out⟩
 case round =>
  clear HR0
  obtain ⟨k, kl, wp, np, ap, wcp, nc, ac, hk, rfl, rfl, rfl, rfl, hkl, hR⟩ := hrel
  have HR := hid hR
  have HKL := hid hkl
  clear hR hkl
  by_cases hlt : k < N
  . have hk3 : k < 3 := by have := HN3.out.2; omega
    have HLT := hid hlt
    obtain ⟨c, hcc⟩ : ∃ c, p.w.getD k cst0 = c := ⟨_, rfl⟩
    have hcok : c.ok := by rw [← hcc]; exact zGP hp.w k
    go_upto_region 5 with fail
    go_cut [39] from 27 to 100 (fun s39 wx => s39 = .bool true ∧ wr = wx)
    case first =>
     have q1 : wr.cell? ⟨w.heap.size, 0, none⟩ = some (.slice p0 L0 c0) := by rw [zAB HR.out.pb]; rfl
     have e1 : decide ((k : Int) < 3) = true := by simp; omega
     by_cases k0 : k = 0
     . have e2 : ((k : Int) == 0) = true := by simp; omega
       clear hlt hk3 k0
       go_wp2_with fail
       go_meet
       exact ⟨rfl, rfl⟩
     . have e2 : ((k : Int) == 0) = false := by simp; omega
       have e3 : decide (k < L0) = true := by have := HN0.out k hlt k0; simp; omega
       clear hlt hk3 k0
       go_wp2_with fail
       go_meet
       exact ⟨rfl, rfl⟩
    case rest =>
     obtain ⟨rfl, rfl⟩ := hcut
     have HPB := hid HR.out.pb
     have HCW : ∀ W, Below wr.heap.size wr W → W.cell? ⟨w.heap.size, 0, none⟩ = some (.slice p0 L0 c0) := fun W hW => by rw [zAB ((hW.block _ (zAD HPB.out)).trans HPB.out)]; rfl
     replace HCW := hid HCW
     go_upto_if 47 with (first
       | ((with_reducible show wpList _ _ _ (Oper.mk (some 42) _ _ _ _ _ :: _) _ _); refine zBM (by rfl) 117 _ (by rfl) #[] (by simp) (.agg #[.int .i64 0, .int .i64 0, .int .i64 0, .int .i64 0, .int .i64 0]) (fun w => by kernel_rfl) ?_)
       | ((with_reducible show wpList _ _ _ (Oper.mk _ (.store 117 _ _) _ _ _ _ :: _) _ _); refine zAY 117 wr.heap.size 0 [.int .i64 0, .int .i64 0, .int .i64 0, .int .i64 0, .int .i64 0] 117 [.int .i64 0, .int .i64 0, .int .i64 0, .int .i64 0, .int .i64 0] (heap_alloc_new _ _) ?_; intro w2 hq1 hq2; have HC2 : Hid (w2.heap[wr.heap.size]? = some (.cells #[.int .i64 0, .int .i64 0, .int .i64 0, .int .i64 0, .int .i64 0] 117 (0, 0))) := hq1; have HBL2 : Hid (Below wr.heap.size wr w2) := zAI hq2; have q1 := HCW.out w2 HBL2.out; clear hq1 hq2))
     obtain ⟨b9, hb9⟩ : ∃ b9, wr.heap.size = b9 := ⟨_, rfl⟩
     go_cut [9] from 27 to 100 (fun s9 wx => s9 = .pointer (some ⟨wr.heap.size, 0, none⟩) ∧ wx.heap[wr.heap.size]? = some (.cells #[.int .i64 c.ty, .int .i64 c.co, .int .i64 c.n, .int .i64 c.wi, .int .i64 c.si] 117 (0, 0)) ∧ Below wr.heap.size wr wx)
     case first =>
       by_cases k1 : k < L0
       . have e3 : decide (k < L0) = true := by simpa using k1
         have e4 : decide ((k : Int) < (L0 : Int)) = true := by simp; omega
         have e5 : (k < L0) = True := by simp [k1]
         have hx := cs_at HA0.out (k := k) (by have := HL0.out; omega)
         rw [hcc] at hx
         obtain ⟨g, off, hp0, hx⟩ := hx
         subst hp0
         have XCS := hid (hx w2 (zAA HR.out.bel HBL2.out HR.out.bel.size))
         have i1 : (0 : Int) ≤ (k : Int) := by omega
         have i2 : (k : Int) < (L0 : Int) := by omega
         clear hx hlt hk3 hb9
         go_wp2_with (first
           | ((with_reducible show wpList _ _ _ (Oper.mk (some 52) _ _ _ _ _ :: _) _ _); refine wpList_load_mid (by rfl) 117 _ (by rfl) g (off + k * 5) (by rfl) [.int .i64 c.ty, .int .i64 c.co, .int .i64 c.n, .int .i64 c.wi, .int .i64 c.si] _ XCS.out Tryz.underlying117 rfl (by kernel_rfl) ?_)
           | ((with_reducible show wpList _ _ _ (Oper.mk _ (.store 117 _ _) _ _ _ _ :: _) _ _); refine zAY 117 wr.heap.size 0 [.int .i64 0, .int .i64 0, .int .i64 0, .int .i64 0, .int .i64 0] 117 [.int .i64 c.ty, .int .i64 c.co, .int .i64 c.n, .int .i64 c.wi, .int .i64 c.si] HC2.out ?_; intro w3 hq1 hq2; have HC3 := hid hq1; have HBL3 := hid (zAG HBL2.out hq2 (Nat.le_refl _)); clear hq1 hq2))
         go_meet
         exact ⟨rfl, HC3.out, HBL3.out⟩
       . have e3 : decide (k < L0) = false := by simpa using k1
         have e4 : decide ((k : Int) < (L0 : Int)) = false := by simp; omega
         have e5 : (k < L0) = False := by simp [k1]
         have hz : c = cst0 := by rw [← hcc, List.getD_eq_getElem?_getD, List.getElem?_eq_none (by have := HL0.out; omega)]; rfl
         clear hlt hk3 hb9
         go_wp2_with fail
         go_meet
         exact ⟨rfl, by rw [hz]; exact HC2.out, HBL2.out⟩
     case rest =>
       obtain ⟨rfl, hq1, hq2⟩ := hcut
       obtain ⟨wb, hwb⟩ : ∃ wb, wb = wc := ⟨_, rfl⟩
       subst hwb
       have HCB := hid hq1
       have HRB := hid (HR.out.below hq2)
       rw [hb9] at HCB ⊢
       have HBU : Hid (w.heap.size + 2 < wb.heap.size) := HRB.out.bl
       clear hq1 hq2 hb9 HR HPB HCW HC2 HBL2 q1
       obtain ⟨j, hj⟩ : ∃ j, pwA c = j := ⟨_, rfl⟩
       obtain ⟨X, hX⟩ : ∃ X, pwC c (pwK p.w k) = X := ⟨_, rfl⟩
       obtain ⟨VN, hVN⟩ : ∃ VN, vnm k = VN := ⟨_, rfl⟩
       have HVN : Hid ((#[.string ⟨#[120]⟩, .string ⟨#[121]⟩, .string ⟨#[122]⟩] : Array Value)[k]? = some (.string VN)) := by
         show _ = _
         rw [← hVN]
         rcases (by omega : k = 0 ∨ k = 1 ∨ k = 2) with h9 | h9 | h9 <;> rw [h9] <;> rfl
       have HPAT := hid (fun W (hW : Below wb.heap.size wb W) => zET VN c hcok (pwK p.w k) (.slice np kl nc) W ((HRB.out.below hW).r6.rd) (by have := zDZ p.w k; omega))
       rw [hj, hX] at HPAT
       have HJX := hid (And.intro hj (And.intro hX hVN))
       have HP4 := hid (fun W => zAF c.wi 4 W hcok.wi.1 hcok.wi.2 (by decide) (by decide))
       have hm4 := pwW_mod c
       obtain ⟨q4, hq4⟩ : ∃ q, pkd c.wi 4 = q := ⟨_, rfl⟩
       rw [hq4] at HP4 hm4
       have hq4b := zAQ c.wi (m := 4) (by decide)
       rw [hq4] at hq4b
       have HP20 := hid (fun W => zAF c.si 20 W hcok.si.1 hcok.si.2 (by decide) (by decide))
       have HP4b := hid (fun W => zAF c.si 4 W hcok.si.1 hcok.si.2 (by decide) (by decide))
       have hs4 := zAQ c.si (m := 4) (by decide)
       have HM5 : Hid (RowKit.wrap64 (1 + pkd c.si 4) = 1 + pkd c.si 4) := by show _ = _; unfold RowKit.wrap64; omega
       have i1 : (0 : Int) ≤ (k : Int) := by omega
       have i2 : (k : Int) < 3 := by omega
       have HOW : Hid (∀ i, (Value.slice wp k wcp).ownBlock = some i → i < wb.heap.size) := fun i hi => (HRB.out.r1.tb hi).1.lt
       clear hcok hj hX hVN hq4 hq4b hs4 hlt hk3
       go_upto_region 10 with fail
       refine zBA (by kernel_rfl) (fun i w9 v => ([(fun w9 v => ∃ (b : Nat), v = .slice (some ⟨b, 0, none⟩) 3 3 ∧ w9.heap[b]? = some (.cells #[.string ⟨#[120]⟩, .string ⟨#[121]⟩, .string ⟨#[122]⟩] 9 (0, 0))), (fun w9 v => v = .int .i64 (k : Nat)), (fun w9 v => ∃ (b : Nat), v = .pointer (some ⟨b, k, none⟩) ∧ w9.heap[b]? = some (.cells #[.string ⟨#[120]⟩, .string ⟨#[121]⟩, .string ⟨#[122]⟩] 9 (0, 0))), (fun w9 v => v = .string VN), (fun w9 v => v = .agg #[.int .i64 c.ty, .int .i64 c.co, .int .i64 c.n, .int .i64 c.wi, .int .i64 c.si]), (fun w9 v => v = (.slice np kl nc)), (fun w9 v => ∃ (sp : Option Addr) (sn sc : Nat), v = .tuple #[ptV VN (tyN j) X.k (.slice sp sn sc) X.l X.r 0 0, .int .i64 (j : Nat)] ∧ KT w9 w.heap.size isC (encC X) (cnC X.k (.slice sp sn sc) X.l X.r)), (fun w9 v => ∃ (sp : Option Addr) (sn sc : Nat), v = .tuple #[ptV VN (tyN j) X.k (.slice sp sn sc) X.l X.r 0 0, .int .i64 (j : Nat)] ∧ KT w9 w.heap.size isC (encC X) (cnC X.k (.slice sp sn sc) X.l X.r)), (fun w9 v => ∃ (sp : Option Addr) (sn sc : Nat), v = ptV VN (tyN j) X.k (.slice sp sn sc) X.l X.r 0 0 ∧ KT w9 w.heap.size isC (encC X) (cnC X.k (.slice sp sn sc) X.l X.r)), (fun w9 v => v = .int .i64 (j : Nat)), (fun w9 v => ∃ (b : Nat), v = .pointer (some ⟨b, 0, none⟩) ∧ wb.heap.size ≤ b ∧ ∃ cs : List Value, cs.length = 18 ∧ w9.heap[b]? = some (.cells cs.toArray 48 (0, 0))), (fun w9 v => True), (fun w9 v => v = .int .i64 (j : Nat))] : List (World → Value → Prop)).getD i (fun _ _ => True) w9 v) (fun W => Below wb.heap.size wb W) 11 10 10 _ rfl (by kernel_rfl) (by decide) (by kernel_rfl) (fun w9 v => ∃ (b : Nat) (sp : Option Addr) (sn sc : Nat), v = .pointer (some ⟨b, 0, none⟩) ∧ wb.heap.size ≤ b ∧ w9.heap[b]? = some (.cells (ptC VN (tyN j) X.k (.slice sp sn sc) X.l X.r 0 0).toArray 48 (0, 0)) ∧ KT w9 w.heap.size isC (encC X) (cnC X.k (.slice sp sn sc) X.l X.r)) 323 rfl (by kernel_rfl) (fun W W' => Below W.heap.size W W') (fun W W' => ∃ b2, wb.heap.size ≤ b2 ∧ TB W 48 b2 ∧ Fr (fun i => i = b2) W W' ∧ ∃ cs : List Value, cs.length = 18 ∧ W'.heap[b2]? = some (.cells cs.toArray 48 (0, 0))) ?hmon ?hmonR ?hmonS (Below.drew (Below.refl _ _)) (zAC.cons ?o0 (zAC.cons ?o1 (zAC.cons ?o2 (zAC.cons ?o3 (zAC.cons ?o4 (zAC.cons ?o5 (zAC.cons ?o6 (zAC.cons ?o7 (zAC.cons ?o8 (zAC.cons ?o9 (zAC.cons ?o10 (zAC.cons ?o11 (zAC.cons ?o12 zAC.nil))))))))))))) ?hst ?hend
       case hmon =>
         intro q W W' v hb h
         rcases q with _ | _ | _ | _ | _ | _ | _ | _ | _ | _ | _ | _ | _ | q
         . obtain ⟨b, e, h1⟩ := h; exact ⟨b, e, (hb.block _ (zAD h1)).trans h1⟩
         . exact h
         . obtain ⟨b, e, h1⟩ := h; exact ⟨b, e, (hb.block _ (zAD h1)).trans h1⟩
         . exact h
         . exact h
         . exact h
         . obtain ⟨sp, sn, sc, e, h1⟩ := h; exact ⟨sp, sn, sc, e, h1.below hb⟩
         . obtain ⟨sp, sn, sc, e, h1⟩ := h; exact ⟨sp, sn, sc, e, h1.below hb⟩
         . obtain ⟨sp, sn, sc, e, h1⟩ := h; exact ⟨sp, sn, sc, e, h1.below hb⟩
         . exact h
         . obtain ⟨b, e, h1, cs, h2, h3⟩ := h; exact ⟨b, e, h1, cs, h2, (hb.block _ (zAD h3)).trans h3⟩
         . exact h
         . exact h
         . exact h
       case hmonR =>
         intro W W' v hb h
         obtain ⟨b, sp, sn, sc, e, h1, h2, h3⟩ := h
         exact ⟨b, sp, sn, sc, e, h1, (hb.block _ (zAD h2)).trans h2, h3.below hb⟩
       case hmonS =>
         intro q W W' v hks hb h
         rcases q with _ | _ | _ | _ | _ | _ | _ | _ | _ | _ | _ | _ | _ | q
         . obtain ⟨b, e, h1⟩ := h; obtain ⟨b2, q1, q2, q3, _⟩ := hb; exact ⟨b, e, (q3.block _ (zAD h1) (fun c9 => q2.ne ⟨_, h1⟩ (by decide) c9.symm)).trans h1⟩
         . exact h
         . obtain ⟨b, e, h1⟩ := h; obtain ⟨b2, q1, q2, q3, _⟩ := hb; exact ⟨b, e, (q3.block _ (zAD h1) (fun c9 => q2.ne ⟨_, h1⟩ (by decide) c9.symm)).trans h1⟩
         . exact h
         . exact h
         . exact h
         . obtain ⟨sp, sn, sc, e, h1⟩ := h; obtain ⟨b2, q1, q2, q3, _⟩ := hb; exact ⟨sp, sn, sc, e, h1.fr q3 q2 (by decide)⟩
         . obtain ⟨sp, sn, sc, e, h1⟩ := h; obtain ⟨b2, q1, q2, q3, _⟩ := hb; exact ⟨sp, sn, sc, e, h1.fr q3 q2 (by decide)⟩
         . obtain ⟨sp, sn, sc, e, h1⟩ := h; obtain ⟨b2, q1, q2, q3, _⟩ := hb; exact ⟨sp, sn, sc, e, h1.fr q3 q2 (by decide)⟩
         . exact h
         . obtain ⟨b, e, h1, cs, h2, h3⟩ := h; obtain ⟨b2, q1, q2, q3, cs2, q4, q5⟩ := hb; by_cases hbb : b = b2; (subst hbb; exact ⟨b, e, h1, cs2, q4, q5⟩); exact ⟨b, e, h1, cs, h2, (q3.block _ (zAD h3) hbb).trans h3⟩
         . exact h
         . exact h
         . exact h
       case o0 =>
         intro _ a W hB hd ho
         have hal : Below W.heap.size W (W.alloc (.cells #[.string ⟨#[120]⟩, .string ⟨#[121]⟩, .string ⟨#[122]⟩] 9)) := (Below.refl _ _).alloc (Nat.le_refl _) _
         refine zBT 84 3 _ rfl #[(0, .string ⟨#[120]⟩), (1, .string ⟨#[121]⟩), (2, .string ⟨#[122]⟩)] (by simp [ev_c]) (.slice (some ⟨W.heap.size, 0, none⟩) 3 3) (W.alloc (.cells #[.string ⟨#[120]⟩, .string ⟨#[121]⟩, .string ⟨#[122]⟩] 9)) (by kernel_rfl) ⟨_, rfl, ⟨W.heap.size, rfl, heap_alloc_new _ _⟩, zAA hB hal hB.size, hal⟩
       case o1 =>
         intro _ a W hB hd ho
         have e8 : a.eval (.tmp 8) = .int .i64 (k : Nat) := ho 8 (by kernel_rfl)
         exact zA1 _ (by simp) _ e8 ⟨_, rfl, rfl, hB, Below.refl _ _⟩
       case o2 =>
         intro _ a W hB hd ho
         obtain ⟨b, e54, h1⟩ : ∃ (b : Nat), a.eval (.tmp 54) = .slice (some ⟨b, 0, none⟩) 3 3 ∧ W.heap[b]? = some (.cells #[.string ⟨#[120]⟩, .string ⟨#[121]⟩, .string ⟨#[122]⟩] 9 (0, 0)) := hd 0 54 (by kernel_rfl)
         have e55 : a.eval (.tmp 55) = .int .i64 (k : Nat) := hd 1 55 (by kernel_rfl)
         exact zAK (.pointer (some ⟨b, k, none⟩)) (by unfold execOp; simp only [ev_c, e54, e55]; go_simp) ⟨_, rfl, ⟨b, rfl, h1⟩, hB, Below.refl _ _⟩
       case o3 =>
         intro _ a W hB hd ho
         obtain ⟨b, e56, h1⟩ : ∃ (b : Nat), a.eval (.tmp 56) = .pointer (some ⟨b, k, none⟩) ∧ W.heap[b]? = some (.cells #[.string ⟨#[120]⟩, .string ⟨#[121]⟩, .string ⟨#[122]⟩] 9 (0, 0)) := hd 2 56 (by kernel_rfl)
         have c9 : W.cell? ⟨b, k, none⟩ = some (.string VN) := by
           rw [zAB h1]
           exact HVN.out
         exact zAK (.string VN) (by unfold execOp; simp only [ev_c, e56]; go_simp) ⟨_, rfl, rfl, hB, Below.refl _ _⟩
       case o4 =>
         intro _ a W hB hd ho
         have e9 : a.eval (.tmp 9) = .pointer (some ⟨b9, 0, none⟩) := ho 9 (by kernel_rfl)
         exact zBZ 117 _ rfl b9 0 e9 [.int .i64 c.ty, .int .i64 c.co, .int .i64 c.n, .int .i64 c.wi, .int .i64 c.si] _ (zAJ ((hB.block _ (zAD HCB.out)).trans HCB.out)) Tryz.underlying117 rfl (by kernel_rfl) ⟨_, rfl, rfl, hB, Below.refl _ _⟩
       case o5 =>
         intro _ a W hB hd ho
         have e6 : a.eval (.tmp 6) = (.slice np kl nc) := ho 6 (by kernel_rfl)
         exact zA1 _ (by simp) _ e6 ⟨_, rfl, rfl, hB, Below.refl _ _⟩
       case o6 =>
         intro _ a W hB hd ho
         have e57 : a.eval (.tmp 57) = .string VN := hd 3 57 (by kernel_rfl)
         have e58 : a.eval (.tmp 58) = .agg #[.int .i64 c.ty, .int .i64 c.co, .int .i64 c.n, .int .i64 c.wi, .int .i64 c.si] := hd 4 58 (by kernel_rfl)
         have e59 : a.eval (.tmp 59) = (.slice np kl nc) := hd 5 59 (by kernel_rfl)
         refine zA0 38 zG3 _ _ rfl #[.string VN, .agg #[.int .i64 c.ty, .int .i64 c.co, .int .i64 c.n, .int .i64 c.wi, .int .i64 c.si], (.slice np kl nc)] (by simp [e57, e58, e59]) _ (HPAT.out W hB) ?_
         rintro e W' ⟨sp, sn, sc, rfl, hkt, hal⟩
         exact ⟨_, rfl, _, rfl, ⟨sp, sn, sc, rfl, hkt.low (Nat.le_trans HRB.out.bel.size hB.size)⟩, zAA hB hal hB.size, hal⟩
       case o7 =>
         intro _ a W hB hd ho
         obtain ⟨sp, sn, sc, e9, hkt⟩ : ∃ (sp : Option Addr) (sn sc : Nat), a.eval (.tmp 60) = .tuple #[ptV VN (tyN j) X.k (.slice sp sn sc) X.l X.r 0 0, .int .i64 (j : Nat)] ∧ KT W w.heap.size isC (encC X) (cnC X.k (.slice sp sn sc) X.l X.r) := hd 6 60 (by kernel_rfl)
         exact zA1 _ (by simp) _ e9 ⟨_, rfl, ⟨sp, sn, sc, rfl, hkt⟩, hB, Below.refl _ _⟩
       case o8 =>
         intro _ a W hB hd ho
         obtain ⟨sp, sn, sc, e9, hkt⟩ : ∃ (sp : Option Addr) (sn sc : Nat), a.eval (.tmp 53) = .tuple #[ptV VN (tyN j) X.k (.slice sp sn sc) X.l X.r 0 0, .int .i64 (j : Nat)] ∧ KT W w.heap.size isC (encC X) (cnC X.k (.slice sp sn sc) X.l X.r) := hd 7 53 (by kernel_rfl)
         exact zAK (ptV VN (tyN j) X.k (.slice sp sn sc) X.l X.r 0 0) (by unfold execOp; simp only [e9]; go_simp) ⟨_, rfl, ⟨sp, sn, sc, rfl, hkt⟩, hB, Below.refl _ _⟩
       case o9 =>
         intro _ a W hB hd ho
         obtain ⟨sp, sn, sc, e9, hkt⟩ : ∃ (sp : Option Addr) (sn sc : Nat), a.eval (.tmp 53) = .tuple #[ptV VN (tyN j) X.k (.slice sp sn sc) X.l X.r 0 0, .int .i64 (j : Nat)] ∧ KT W w.heap.size isC (encC X) (cnC X.k (.slice sp sn sc) X.l X.r) := hd 7 53 (by kernel_rfl)
         exact zAK (.int .i64 (j : Nat)) (by unfold execOp; simp only [e9]; go_simp) ⟨_, rfl, rfl, hB, Below.refl _ _⟩
       case o10 =>
         intro _ a W hB hd ho
         have hal : Below W.heap.size W (W.alloc (.cells pt0.toArray 48)) := (Below.refl _ _).alloc (Nat.le_refl _) _
         exact zFQ 48 rfl (pt0) (by kernel_rfl) ⟨_, rfl, ⟨W.heap.size, rfl, hB.size, _, rfl, heap_alloc_new _ _⟩, zAA hB hal hB.size, hal⟩
       case o11 =>
         intro h9; exact absurd rfl h9
       case o12 =>
         intro _ a W hB hd ho
         have e62 : a.eval (.tmp 62) = .int .i64 (j : Nat) := hd 9 62 (by kernel_rfl)
         exact zA1 _ (by simp) _ e62 ⟨_, rfl, rfl, hB, Below.refl _ _⟩
       case hst =>
         intro a W hB hd ho
         obtain ⟨sp, sn, sc, e8, hkt⟩ : ∃ (sp : Option Addr) (sn sc : Nat), a.eval (.tmp 61) = ptV VN (tyN j) X.k (.slice sp sn sc) X.l X.r 0 0 ∧ KT W w.heap.size isC (encC X) (cnC X.k (.slice sp sn sc) X.l X.r) := hd 8 61 (by kernel_rfl)
         obtain ⟨b, e10, hb1, cs, hcs, hblk⟩ : ∃ (b : Nat), a.eval (.tmp 10) = .pointer (some ⟨b, 0, none⟩) ∧ wb.heap.size ≤ b ∧ ∃ cs : List Value, cs.length = 18 ∧ W.heap[b]? = some (.cells cs.toArray 48 (0, 0)) := hd 10 10 (by kernel_rfl)
         refine op_st 48 _ _ rfl b 0 cs 48 (ptV VN (tyN j) X.k (.slice sp sn sc) X.l X.r 0 0) (ptC VN (tyN j) X.k (.slice sp sn sc) X.l X.r 0 0) e10 e8 (by rfl) hblk (by rw [hcs]; simp) (by kernel_rfl) (by rfl) ?_
         intro w5 h5 hf5
         have h5' : w5.heap[b]? = some (.cells (ptC VN (tyN j) X.k (.slice sp sn sc) X.l X.r 0 0).toArray 48 (0, 0)) := by rw [h5, zGC cs _ (by rw [hcs]; rfl)]
         exact ⟨undef, rfl, trivial, zAG hB hf5 hb1, ⟨b, hb1, ⟨_, hblk⟩, hf5, _, rfl, h5'⟩, ⟨b, sp, sn, sc, e10, hb1, h5', hkt.fr hf5 ⟨_, hblk⟩ (by decide)⟩⟩
       case hend =>
         intro vs W hB hT hR
         obtain ⟨b, sp, sn, sc, ew, hb1, hblk, hkt⟩ := hR
         have ea : vs 12 = .int .i64 (j : Nat) := hT 12 (by decide)
         simp only [List.toList_toArray, List.take_succ_cons, List.take_zero, fill, if_true, Act.put, List.setIfInBounds_toArray, List.set_cons_zero, List.set_cons_succ, ew, ea]
         generalize vs 0 = v0
         generalize vs 1 = v1
         generalize vs 2 = v2
         generalize vs 3 = v3
         generalize vs 4 = v4
         generalize vs 5 = v5
         generalize vs 6 = v6
         generalize vs 7 = v7
         generalize vs 8 = v8
         generalize vs 9 = v9
         clear hT ew ea vs
         have HBW := hid hB
         have HB1 := hid hb1
         have HBK := hid hblk
         have HKT := hid hkt
         have HC6 : Hid (W.heap[b9]? = some (.cells #[.int .i64 c.ty, .int .i64 c.co, .int .i64 c.n, .int .i64 c.wi, .int .i64 c.si] 117 (0, 0))) := (hB.block _ (zAD HCB.out)).trans HCB.out
         have HNB : Hid (b9 < b) := by have h8 := zAD HCB.out; show b9 < b; omega
         have q0 : W.cell? ⟨b9, 3, none⟩ = some (.int .i64 c.wi) := by rw [zAB HC6.out]; rfl
         clear hB hb1 hblk hkt
         go_upto_block 2 with (first
           | (go_at_call 9; refine (HP4.out _).mono ?_; rintro e _ ⟨rfl, rfl⟩)
           | ((with_reducible show wpList _ _ _ (Oper.mk _ (.store 3 _ _) _ _ _ _ :: _) _ _); refine zAT 3 b 16 (ptC VN (tyN j) X.k (.slice sp sn sc) X.l X.r 0 0) 48 (.int .i64 (pwW c)) [.int .i64 (pwW c)] HBK.out ?_; intro w6 hq1 hq2; have HBK6 : Hid (w6.heap[b]? = some (.cells (ptC VN (tyN j) X.k (.slice sp sn sc) X.l X.r (pwW c) 0).toArray 48 (0, 0))) := hq1; have HKT6 := hid (HKT.out.fr hq2 ⟨_, HBK.out⟩ (by decide)); have HBW6 := hid (zAG HBW.out hq2 HB1.out); have q3 : w6.cell? ⟨b, 16, none⟩ = some (.int .i64 (pwW c)) := zAB HBK6.out 16; have q4 : w6.cell? ⟨b9, 4, none⟩ = some (.int .i64 c.si) := (by rw [zAB ((hq2.block b9 (zAD HC6.out) (by have := HNB.out; show b9 ≠ b; omega)).trans HC6.out)]; rfl); clear hq1 hq2))
         go_cut [10] from 27 to 100 (fun s10 wx => s10 = .pointer (some ⟨b, 0, none⟩) ∧ wx.heap[b]? = some (.cells (ptC VN (tyN j) X.k (.slice sp sn sc) X.l X.r (pwW c) (pwN c)).toArray 48 (0, 0)) ∧ KT wx w.heap.size isC (encC X) (cnC X.k (.slice sp sn sc) X.l X.r) ∧ Below wb.heap.size wb wx)
         case first =>
           rcases pwW_in c with hw | hw | hw
           . have d1 : (pwW c == 1) = false := by rw [hw]; rfl
             have d2 : (pwW c == 2) = false := by rw [hw]; rfl
             have HN_ : Hid (pwN c = 0) := by show _ = _; unfold pwN; rw [if_neg (by omega), if_neg (by omega)]
             clear hw
             go_wp2_with fail
             go_meet
             exact ⟨rfl, by rw [HN_.out]; exact HBK6.out, HKT6.out, HBW6.out⟩
           . have d1 : (pwW c == 1) = true := by rw [hw]; rfl
             have d2 : (pwW c == 2) = false := by rw [hw]; rfl
             have HN_ : Hid (pwN c = pkd c.si 20) := by show _ = _; unfold pwN; rw [if_pos hw]
             clear hw
             go_wp2_with (first
              | (go_at_call 9; refine (HP20.out _).mono ?_; rintro e _ ⟨rfl, rfl⟩)
              | ((with_reducible show wpList _ _ _ (Oper.mk _ (.store 3 _ _) _ _ _ _ :: _) _ _); refine zAT 3 b 17 (ptC VN (tyN j) X.k (.slice sp sn sc) X.l X.r (pwW c) 0) 48 (.int .i64 (pkd c.si 20)) [.int .i64 (pkd c.si 20)] HBK6.out ?_; intro w7 hq1 hq2; have HBK7 : Hid (w7.heap[b]? = some (.cells (ptC VN (tyN j) X.k (.slice sp sn sc) X.l X.r (pwW c) (pkd c.si 20)).toArray 48 (0, 0))) := hq1; have HKT7 := hid (HKT6.out.fr hq2 ⟨_, HBK6.out⟩ (by decide)); have HBW7 := hid (zAG HBW6.out hq2 HB1.out); clear hq1 hq2))
             go_meet
             exact ⟨rfl, by rw [HN_.out]; exact HBK7.out, HKT7.out, HBW7.out⟩
           . have d1 : (pwW c == 1) = false := by rw [hw]; rfl
             have d2 : (pwW c == 2) = true := by rw [hw]; rfl
             have HN_ : Hid (pwN c = 1 + pkd c.si 4) := by show _ = _; unfold pwN; rw [if_neg (by omega), if_pos hw]
             clear hw
             go_wp2_with (first
              | (go_at_call 9; refine (HP4b.out _).mono ?_; rintro e _ ⟨rfl, rfl⟩)
              | ((with_reducible show wpList _ _ _ (Oper.mk _ (.store 3 _ _) _ _ _ _ :: _) _ _); refine zAT 3 b 17 (ptC VN (tyN j) X.k (.slice sp sn sc) X.l X.r (pwW c) 0) 48 (.int .i64 (RowKit.wrap64 (1 + pkd c.si 4))) [.int .i64 (RowKit.wrap64 (1 + pkd c.si 4))] HBK6.out ?_; intro w7 hq1 hq2; rw [HM5.out] at hq1; have HBK7 : Hid (w7.heap[b]? = some (.cells (ptC VN (tyN j) X.k (.slice sp sn sc) X.l X.r (pwW c) (1 + pkd c.si 4)).toArray 48 (0, 0))) := hq1; have HKT7 := hid (HKT6.out.fr hq2 ⟨_, HBK6.out⟩ (by decide)); have HBW7 := hid (zAG HBW6.out hq2 HB1.out); clear hq1 hq2))
             go_meet
             exact ⟨rfl, by rw [HN_.out]; exact HBK7.out, HKT7.out, HBW7.out⟩
         case rest =>
           obtain ⟨rfl, hq1, hq2, hq3⟩ := hcut
           have HBK := hid hq1
           have HKC := hid hq2
           have HBC := hid hq3
           clear hq1 hq2 hq3
           have HRC : Hid (Ru w wc [.slice p0 L0 c0, .slice p1 L1 c1, .slice p2 L2 c2, .slice p3 L3 c3, .int .i64 p.e] (⟨nm, pwWs p.w k, [], [], [], ⟨txt [], []⟩⟩ : Rl) (pwK p.w k) (alN k) (.slice wp k wcp) (.slice none 0 0) (.slice none 0 0) (.slice none 0 0) (.slice np kl nc) (.slice ap k ac)) := HRB.out.below HBC.out
           have q1 : wc.cell? ⟨w.heap.size + 2, 1, none⟩ = some (.slice wp k wcp) := by rw [zAB HRC.out.ub]; rfl
           have HKP := hid (HKC.out.pat VN (tyN j) (pwW c) (pwN c))
           have HLW : Hid (((pwWs p.w k).map encP).length ≤ 10) := by show _ ≤ 10; rw [List.length_map, zBG]; omega
           have HLW1 : Hid (((pwWs p.w k).map encP).length + 1 = k + 1) := by show _ + 1 = _; rw [List.length_map, zBG]
           go_upto_region 18 with (first
             | ((with_reducible show wpList _ _ _ (Oper.mk (some 85) _ _ _ _ _ :: _) _ _); refine wpList_load_mid (by rfl) 48 _ (by rfl) b 0 (by rfl) (ptC VN (tyN j) X.k (.slice sp sn sc) X.l X.r (pwW c) (pwN c)) _ (zAJ HBK.out) Tryz.underlying48 rfl (by kernel_rfl) ?_)
             | ((with_reducible show wpList _ _ _ (Oper.mk (some 86) _ _ _ _ _ :: _) _ _); refine zCQ (by rfl) 49 1 _ (by rfl) #[(0, ptV VN (tyN j) X.k (.slice sp sn sc) X.l X.r (pwW c) (pwN c))] (by simp [Act.eval, Act.put]) (ptC VN (tyN j) X.k (.slice sp sn sc) X.l X.r (pwW c) (pwN c)) 48 (fun w => by kernel_rfl) ?_; intro b2 w2 hq1 hq2; have HB2 := hid hq1; have HRD := hid (HRC.out.below hq2); have HKD := hid (HKP.out.below hq2); have HBK2 : Hid (w2.heap[b]? = _) := (hq2.block _ (zAD HBK.out)).trans HBK.out; clear hq1 hq2)
             | ((with_reducible show wpList _ _ _ (Oper.mk (some 87) _ _ _ _ _ :: _) _ _); refine zB1 (by rfl) _ _ 49 (by rfl) w.heap.size isC 48 18 224 ip _ Tryz.underlying49 HIP.out.1 HIP.out.2.1 HIP.out.2.2.1 HIP.out.2.2.2 rfl (by omega) (by decide) (.slice wp k wcp) ((pwWs p.w k).map encP) (by rfl) HRD.out.r1 HRD.out.bel.size b2 (ptC VN (tyN j) X.k (.slice sp sn sc) X.l X.r (pwW c) (pwN c)) (by rfl) HB2.out (by rfl) (by rfl) (encP ⟨VN, tyN j, X, pwW c, pwN c⟩) HKD.out (by decide) HLW.out (k + 1) HLW1.out ?_; intro wp5 wc5 w5 hq1 hq2 hq3; have HR5 := hid hq1; have HG5 := hid hq2; have HO5 := hid hq3; clear hq1 hq2 hq3)
             | ((with_reducible show wpList _ _ _ (Oper.mk _ (.store 49 _ _) _ _ _ _ :: _) _ _); refine zAT 49 (w.heap.size + 2) 1 [.string nm, (.slice wp k wcp), .slice none 0 0, .slice none 0 0, .slice none 0 0, .string ⟨#[]⟩, .slice none 0 0] 56 (.slice wp5 (k + 1) wc5) [.slice wp5 (k + 1) wc5] (HRD.out.ub_wv HG5.out) ?_; intro w6 hq1 hq2; have HRE : Hid (Ru w w6 [.slice p0 L0 c0, .slice p1 L1 c1, .slice p2 L2 c2, .slice p3 L3 c3, .int .i64 p.e] (⟨nm, pwWs p.w k ++ [⟨VN, tyN j, X, pwW c, pwN c⟩], [], [], [], ⟨txt [], []⟩⟩ : Rl) (pwK p.w k) (alN k) (.slice wp5 (k + 1) wc5) (.slice none 0 0) (.slice none 0 0) (.slice none 0 0) (.slice np kl nc) (.slice ap k ac)) := HRD.out.app_wv HG5.out HO5.out HR5.out hq1 hq2; have HBK6 : Hid (w6.heap[b]? = some (.cells (ptC VN (tyN j) X.k (.slice sp sn sc) X.l X.r (pwW c) (pwN c)).toArray 48 (0, 0))) := (hq2.block b (Nat.lt_of_lt_of_le (zAD HBK2.out) HG5.out.size) (by have h7 := HBU.out; have h8 := HB1.out; show b ≠ w.heap.size + 2; omega)).trans ((HG5.out.block b (zAD HBK2.out) (fun h9 => by have h8 := HOW.out b h9.symm; have h7 := HB1.out; omega)).trans HBK2.out); have q2 : w6.cell? ⟨b, 0, none⟩ = some (.string VN) := (by rw [zAB HBK6.out]; rfl); clear hq1 hq2))
           obtain ⟨w6_, hw6_⟩ : ∃ q, q = w6 := ⟨_, rfl⟩
           clear hw6_ w6_
           have HLA : Hid (((alN k).map encS).length ≤ 10) := by show _ ≤ 10; rw [List.length_map, zBB]; omega
           have HLA1 : Hid (((alN k).map encS).length + 1 = k + 1) := by show _ + 1 = _; rw [List.length_map, zBB]
           have HLK : Hid (((pwK p.w k).map encS).length ≤ 10) := by show _ ≤ 10; rw [List.length_map]; have := zDZ p.w k; omega
           have HLK1 : Hid (((pwK p.w k).map encS).length + 1 = kl + 1) := by show _ + 1 = _; rw [List.length_map, HKL.out]
           have e1 : pwWs p.w (k + 1) = pwWs p.w k ++ [⟨VN, tyN j, X, pwW c, pwN c⟩] := by rw [pwWs]; unfold pwH pwP; rw [hcc, HJX.out.1, HJX.out.2.1, HJX.out.2.2]
           have e2 : alN (k + 1) = alN k ++ [VN] := by rw [alN, HJX.out.2.2]
           have HE12 := hid (And.intro e1 e2)
           clear e1 e2
           by_cases hj2 : j = 2
           . have g1 : ((j : Int) != 2) = false := by simp; omega
             have g2 : (j = 2) = True := by simp [hj2]
             have e3 : Hid (pwK p.w (k + 1) = pwK p.w k) := by show _ = _; rw [pwK, hcc, HJX.out.1, if_pos hj2]
             clear hj2
             go_wp2_with (first
              | ((with_reducible show wpList _ _ _ (Oper.mk (some 92) _ _ _ _ _ :: _) _ _); refine zCQ (by rfl) 84 1 _ (by rfl) #[(0, .string VN)] (by simp [Act.eval, Act.put]) [.string VN] 9 (fun w => by kernel_rfl) ?_; intro b3 w7 hq1 hq2; have Hb3 := hid hq1; have HRF := hid (HRE.out.below hq2); have HBK7 : Hid (w7.heap[b]? = some (.cells (ptC VN (tyN j) X.k (.slice sp sn sc) X.l X.r (pwW c) (pwN c)).toArray 48 (0, 0))) := (hq2.block _ (zAD HBK6.out)).trans HBK6.out; clear hq1 hq2)
              | ((with_reducible show wpList _ _ _ (Oper.mk (some 93) _ _ _ _ _ :: _) _ _); refine zB1 (by rfl) _ _ 84 (by rfl) w.heap.size isC 9 1 16 is _ Tryz.underlying84 HIS.out.1 HIS.out.2.1 HIS.out.2.2.1 HIS.out.2.2.2 rfl (by omega) (by decide) (.slice ap k ac) ((alN k).map encS) (by rfl) HRF.out.r7 HRF.out.bel.size b3 [.string VN] (by rfl) Hb3.out (by rfl) (by rfl) (encS VN) (KT.lits _ _ _ [.string VN]) (by decide) HLA.out (k + 1) HLA1.out ?_; intro ap8 ac8 w8 hq1 hq2 hq3; have HR8 := hid hq1; have HG8 := hid hq2; have HO8 := hid hq3; clear hq1 hq2 hq3; have HRG := hid (HRF.out.app_av HG8.out HO8.out HR8.out); have HBK8 : Hid (w8.heap[b]? = some (.cells (ptC VN (tyN j) X.k (.slice sp sn sc) X.l X.r (pwW c) (pwN c)).toArray 48 (0, 0))) := (HG8.out.block b (zAD HBK7.out) (fun h9 => (HRF.out.r7.tb h9.symm).1.ne ⟨_, HBK7.out⟩ (by decide) rfl)).trans HBK7.out; have q5 : w8.cell? ⟨b, 0, none⟩ = some (.string VN) := by { rw [zAB HBK8.out]; rfl }))
             go_roundg (N + 1 - (k + 1))
             case rel =>
              refine ⟨k + 1, kl, wp5, np, ap8, wc5, nc, ac8, HLT.out, rfl, rfl, rfl, by go_num, by rw [e3.out]; exact HKL.out, ?_⟩
              rw [HE12.out.1, HE12.out.2, e3.out]
              exact HRG.out
             case measure => omega
           . have g1 : ((j : Int) != 2) = true := by simp; omega
             have g2 : (j = 2) = False := by simp [hj2]
             have e3 : Hid (pwK p.w (k + 1) = pwK p.w k ++ [VN]) := by show _ = _; rw [pwK, hcc, HJX.out.1, if_neg hj2, HJX.out.2.2]
             clear hj2
             go_wp2_with (first
              | ((with_reducible show wpList _ _ _ (Oper.mk (some 92) _ _ _ _ _ :: _) _ _); refine zCQ (by rfl) 84 1 _ (by rfl) #[(0, .string VN)] (by simp [Act.eval, Act.put]) [.string VN] 9 (fun w => by kernel_rfl) ?_; intro b3 w7 hq1 hq2; have Hb3 := hid hq1; have HRF := hid (HRE.out.below hq2); have HBK7 : Hid (w7.heap[b]? = some (.cells (ptC VN (tyN j) X.k (.slice sp sn sc) X.l X.r (pwW c) (pwN c)).toArray 48 (0, 0))) := (hq2.block _ (zAD HBK6.out)).trans HBK6.out; clear hq1 hq2)
              | ((with_reducible show wpList _ _ _ (Oper.mk (some 93) _ _ _ _ _ :: _) _ _); refine zB1 (by rfl) _ _ 84 (by rfl) w.heap.size isC 9 1 16 is _ Tryz.underlying84 HIS.out.1 HIS.out.2.1 HIS.out.2.2.1 HIS.out.2.2.2 rfl (by omega) (by decide) (.slice ap k ac) ((alN k).map encS) (by rfl) HRF.out.r7 HRF.out.bel.size b3 [.string VN] (by rfl) Hb3.out (by rfl) (by rfl) (encS VN) (KT.lits _ _ _ [.string VN]) (by decide) HLA.out (k + 1) HLA1.out ?_; intro ap8 ac8 w8 hq1 hq2 hq3; have HR8 := hid hq1; have HG8 := hid hq2; have HO8 := hid hq3; clear hq1 hq2 hq3; have HRG := hid (HRF.out.app_av HG8.out HO8.out HR8.out); have HBK8 : Hid (w8.heap[b]? = some (.cells (ptC VN (tyN j) X.k (.slice sp sn sc) X.l X.r (pwW c) (pwN c)).toArray 48 (0, 0))) := (HG8.out.block b (zAD HBK7.out) (fun h9 => (HRF.out.r7.tb h9.symm).1.ne ⟨_, HBK7.out⟩ (by decide) rfl)).trans HBK7.out; have q5 : w8.cell? ⟨b, 0, none⟩ = some (.string VN) := by { rw [zAB HBK8.out]; rfl })
              | ((with_reducible show wpList _ _ _ (Oper.mk (some 99) _ _ _ _ _ :: _) _ _); refine zCQ (by rfl) 84 1 _ (by rfl) #[(0, .string VN)] (by simp [Act.eval, Act.put]) [.string VN] 9 (fun w => by kernel_rfl) ?_; intro b4 w9 hq1 hq2; have Hb4 := hid hq1; have HRH := hid (HRG.out.below hq2); clear hq1 hq2)
              | ((with_reducible show wpList _ _ _ (Oper.mk (some 100) _ _ _ _ _ :: _) _ _); refine zB1 (by rfl) _ _ 84 (by rfl) w.heap.size isC 9 1 16 is _ Tryz.underlying84 HIS.out.1 HIS.out.2.1 HIS.out.2.2.1 HIS.out.2.2.2 rfl (by omega) (by decide) (.slice np kl nc) ((pwK p.w k).map encS) (by rfl) HRH.out.r6 HRH.out.bel.size b4 [.string VN] (by rfl) Hb4.out (by rfl) (by rfl) (encS VN) (KT.lits _ _ _ [.string VN]) (by decide) HLK.out (kl + 1) HLK1.out ?_; intro np9 nc9 w10 hq1 hq2 hq3; have HR9 := hid hq1; have HG9 := hid hq2; have HO9 := hid hq3; clear hq1 hq2 hq3; have HRI := hid (HRH.out.app_nv HG9.out HO9.out HR9.out)))
             go_roundg (N + 1 - (k + 1))
             case rel =>
              refine ⟨k + 1, kl + 1, wp5, np9, ap8, wc5, nc9, ac8, HLT.out, rfl, rfl, rfl, by go_num, by rw [e3.out, List.length_append, HKL.out]; rfl, ?_⟩
              rw [HE12.out.1, HE12.out.2, e3.out]
              exact HRI.out
             case measure => omega
  . obtain rfl : N = k := by omega
    go_upto_region 5 with fail
    go_cut [39] from 27 to 100 (fun s wx => s = .bool false ∧ wr = wx)
    case first =>
     have q1 : wr.cell? ⟨w.heap.size, 0, none⟩ = some (.slice p0 L0 c0) := by rw [zAB HR.out.pb]; rfl
     by_cases h3 : N < 3
     . obtain ⟨h4, h5⟩ := HN1.out h3
       have e1 : decide ((N : Int) < 3) = true := by simp; omega
       have e2 : ((N : Int) == 0) = false := by simp; omega
       have e3 : decide (N < L0) = false := by simp; omega
       clear hlt h3 h4 h5
       go_wp2_with fail
       go_meet
       exact ⟨rfl, rfl⟩
     . have e1 : decide ((N : Int) < 3) = false := by simp; omega
       clear hlt h3
       go_wp2_with fail
       go_meet
       exact ⟨rfl, rfl⟩
    case rest =>
     obtain ⟨rfl, rfl⟩ := hcut
     go_wp2_with fail
     exact HX.out kl wp np ap wcp nc ac _ _ _ _ _ _ _ _ _ _ _ _ _ _ _ _ _ _ _ _ _ _ _ _ _ _ _ _ _ _ _ _ _ _ _ _ _ _ _ _ _ _ _ _ _ _ _ _ _ _ _ _ _ _ _ _ _ _ _ _ _ _ _ _ _ _ _ _ _ _ _ _ _ _ _ _ _ _ HKL.out HR.out
end Go.Proofs.YtnlmknbhppdliaaGreatDoor.Chk
