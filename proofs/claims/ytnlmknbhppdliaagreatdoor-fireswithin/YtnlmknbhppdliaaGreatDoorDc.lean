/-
  A side of a comparison, by the program.
-/
import Derived.Deep.RegionHeld3
import Derived.Test.YtnlmknbhppdliaaGreatDoorV4I
set_option maxHeartbeats 64000000
namespace Go.Proofs.YtnlmknbhppdliaaGreatDoor.Chk
open Go.ChangeShapes Go.WideShapes Go.ChangeAt Go.RowKit Go.Maps
set_option linter.unusedVariables false
set_option linter.unusedSimpArgs false
set_option maxRecDepth 20000
structure Scp (w : World) (ts : List Tp) (tv : Value) (b mb : Nat) (K : Kns) (n : Nat) : Prop where
  rt : Rd w (.row 59 2 (ts.map encY)) tv
  fd : w.cell? ⟨b, 0, none⟩ = some tv
  km : Km w mb K n
  tk : Tab w 0 kpl
  tr : Tab w 1 rll
theorem zAF {w w' : World} {g : Nat} {l : List (List UInt8)} (h : Tab w g l) (hb : Below w.heap.size w w') : Tab w' g l := h.fr (X := fun _ => False) (Fr.of_below hb) (fun c => c)
theorem Scp.later {w w' : World} {ts : List Tp} {tv : Value} {b mb n : Nat} {K : Kns} (h : Scp w ts tv b mb K n) (hb : Below w.heap.size w w') : Scp w' ts tv b mb K n :=
  ⟨h.rt.later hb, (hb.cell (p := ⟨b, 0, none⟩) (World.block_lt_of_cell? _ _ h.fd)).trans h.fd, h.km.later hb, zAF h.tk hb, zAF h.tr hb⟩
abbrev scV (tv : Value) (b mb : Nat) : Value := .agg #[tv, .func (.func 95) #[] #[.pointer (some ⟨b, 0, none⟩)], .map (some mb)]
def Knw (ts : List Tp) (ws : List Pt) (K : Kns) : Prop :=
  (∀ va : ByteArray, ptq ws va < 0 → ((lkp K va.data.toList).getD (0, 0)).1 ≠ 1) ∧ ∀ (va : ByteArray) (j : Nat) (hj : j < ws.length), ptq ws va = (j : Int) → lkp K va.data.toList = some (1, tyq ts ws[j].ty)
theorem vck_eq (vk vi : Int) (vt : ByteArray) : V4.vchk ⟨vk, vi, vt⟩ = vck vk vi vt := by
 unfold V4.vchk vck
 simp only
 by_cases h1 : vk = 1
 . subst h1
   rw [if_neg (by omega), if_pos rfl]
   by_cases he : emp vt = true
   . have e0 := zCE he
     have hs := V4.size_nil e0
     have hf : ¬ emp vt = false := by rw [he]; decide
     rw [if_neg (by simp [e0]), if_neg (by omega), if_neg hf]
     by_cases hr : -1125899906842624 ≤ vi ∧ vi ≤ 1125899906842624
     . rw [if_neg (by omega), if_pos hr]
     . rw [if_pos (by omega), if_neg hr]
   . have he' : emp vt = false := by simpa using he
     rw [if_pos (.inl ⟨rfl, (zDI he').1⟩), if_pos he']
 . rw [if_neg h1]
   by_cases h2 : vk = 2
   . subst h2
     rw [if_neg (by omega), if_pos rfl]
     by_cases h0 : vi = 0
     . subst h0
       rw [if_neg (by simp), if_pos rfl]
       by_cases hs : 20 < vt.size
       . rw [if_pos hs, if_pos hs]
       . rw [if_neg hs, if_neg hs, if_neg (by decide)]
     . rw [if_pos (.inr ⟨rfl, h0⟩), if_neg h0]
   . rw [if_pos ⟨h1, h2⟩, if_neg h2]
theorem zF0 (vk vi : Int) (vt : ByteArray) (w : World) : Calls Tryz.prog 109 #[.agg #[.int .i64 vk, .int .i64 vi, .string vt]] w fun e w' => e = .returned (.int .i64 (vck vk vi vt)) ∧ Below w.heap.size w w' := by
  have := V4.check_any ⟨vk, vi, vt⟩ w
  rw [vck_eq] at this
  exact this
theorem pside_k (ts : List Tp) (tp : Option Addr) (tn tc b mb : Nat) (K : Kns) (n : Nat) (on : ByteArray) (fp : Option Addr) (fn fc : Nat) (ok ovk ovi : Int) (ovt ova ofd : ByteArray) (w : World) (hs : Scp w ts (.slice tp tn tc) b mb K n) (hok : ¬ (1 ≤ ok ∧ ok ≤ 3)) :
  Calls Tryz.prog 156 #[scV (.slice tp tn tc) b mb, .agg #[.int .i64 ok, .int .i64 ovk, .int .i64 ovi, .string ovt, .string ova, .string ofd], .agg #[.string on, .slice fp fn fc]] w fun e w' => e = .returned (.tuple #[.int .i64 0, .int .i64 3]) ∧ Below w.heap.size w w' := by
 have HB : Hid (Below w.heap.size w (((w.alloc (.cells #[.slice tp tn tc, .func (.func 95) #[] #[.pointer (some ⟨b, 0, none⟩)], .map (some mb)] 174)).alloc (.cells #[.int .i64 ok, .int .i64 ovk, .int .i64 ovi, .string ovt, .string ova, .string ofd] 44)).alloc (.cells #[.string on, .slice fp fn fc] 59))) := (((Below.refl _ _).alloc (Nat.le_refl _) _).alloc (by simp) _).alloc (by simp; omega) _
 have HS := hid hs
 clear hs
 have b1 : (ok == 1) = false := by simp; omega
 have b2 : (ok == 2) = false := by simp; omega
 have b3 : (ok == 3) = false := by simp; omega
 clear hok
 go_enter Tryz.func156, Tryz.ntmps156
 go_wp2_with fail
 go_ret2
 exact ⟨rfl, HB.out⟩
theorem pside_1a (ts : List Tp) (tp : Option Addr) (tn tc b mb : Nat) (K : Kns) (n : Nat) (on : ByteArray) (fp : Option Addr) (fn fc : Nat) (ok ovk ovi : Int) (ovt ova ofd : ByteArray) (w : World) (hs : Scp w ts (.slice tp tn tc) b mb K n) (hok : ok = 1) (he : emp ova = false) :
  Calls Tryz.prog 156 #[scV (.slice tp tn tc) b mb, .agg #[.int .i64 ok, .int .i64 ovk, .int .i64 ovi, .string ovt, .string ova, .string ofd], .agg #[.string on, .slice fp fn fc]] w fun e w' => e = .returned (.tuple #[.int .i64 0, .int .i64 4]) ∧ Below w.heap.size w w' := by
 have HB : Hid (Below w.heap.size w (((w.alloc (.cells #[.slice tp tn tc, .func (.func 95) #[] #[.pointer (some ⟨b, 0, none⟩)], .map (some mb)] 174)).alloc (.cells #[.int .i64 ok, .int .i64 ovk, .int .i64 ovi, .string ovt, .string ova, .string ofd] 44)).alloc (.cells #[.string on, .slice fp fn fc] 59))) := (((Below.refl _ _).alloc (Nat.le_refl _) _).alloc (by simp) _).alloc (by simp; omega) _
 have HS := hid hs
 clear hs
 obtain rfl : ok = 1 := hok
 obtain ⟨e1, e2⟩ := zDI he
 clear he
 go_enter Tryz.func156, Tryz.ntmps156
 go_wp2_with fail
 go_ret2
 exact ⟨rfl, HB.out⟩
theorem pside_1b (ts : List Tp) (tp : Option Addr) (tn tc b mb : Nat) (K : Kns) (n : Nat) (on : ByteArray) (fp : Option Addr) (fn fc : Nat) (ok ovk ovi : Int) (ovt ova ofd : ByteArray) (w : World) (hs : Scp w ts (.slice tp tn tc) b mb K n) (hok : ok = 1) (he : emp ova = true) (hf : emp ofd = false) :
  Calls Tryz.prog 156 #[scV (.slice tp tn tc) b mb, .agg #[.int .i64 ok, .int .i64 ovk, .int .i64 ovi, .string ovt, .string ova, .string ofd], .agg #[.string on, .slice fp fn fc]] w fun e w' => e = .returned (.tuple #[.int .i64 0, .int .i64 4]) ∧ Below w.heap.size w w' := by
 have HB : Hid (Below w.heap.size w (((w.alloc (.cells #[.slice tp tn tc, .func (.func 95) #[] #[.pointer (some ⟨b, 0, none⟩)], .map (some mb)] 174)).alloc (.cells #[.int .i64 ok, .int .i64 ovk, .int .i64 ovi, .string ovt, .string ova, .string ofd] 44)).alloc (.cells #[.string on, .slice fp fn fc] 59))) := (((Below.refl _ _).alloc (Nat.le_refl _) _).alloc (by simp) _).alloc (by simp; omega) _
 have HS := hid hs
 clear hs
 obtain rfl : ok = 1 := hok
 have e1 := zCE he
 obtain ⟨e2, e3⟩ := zDI hf
 clear he hf
 go_enter Tryz.func156, Tryz.ntmps156
 go_wp2_with fail
 go_ret2
 exact ⟨rfl, HB.out⟩
theorem pside_1c (ts : List Tp) (tp : Option Addr) (tn tc b mb : Nat) (K : Kns) (n : Nat) (on : ByteArray) (fp : Option Addr) (fn fc : Nat) (ok ovk ovi : Int) (ovt ova ofd : ByteArray) (w : World) (hs : Scp w ts (.slice tp tn tc) b mb K n) (hok : ok = 1) (he : emp ova = true) (hf : emp ofd = true) :
  Calls Tryz.prog 156 #[scV (.slice tp tn tc) b mb, .agg #[.int .i64 ok, .int .i64 ovk, .int .i64 ovi, .string ovt, .string ova, .string ofd], .agg #[.string on, .slice fp fn fc]] w fun e w' => e = .returned (.tuple #[.int .i64 ovk, .int .i64 (vck ovk ovi ovt)]) ∧ Below w.heap.size w w' := by
 have HB : Hid (Below w.heap.size w (((w.alloc (.cells #[.slice tp tn tc, .func (.func 95) #[] #[.pointer (some ⟨b, 0, none⟩)], .map (some mb)] 174)).alloc (.cells #[.int .i64 ok, .int .i64 ovk, .int .i64 ovi, .string ovt, .string ova, .string ofd] 44)).alloc (.cells #[.string on, .slice fp fn fc] 59))) := (((Below.refl _ _).alloc (Nat.le_refl _) _).alloc (by simp) _).alloc (by simp; omega) _
 have HS := hid hs
 clear hs
 obtain rfl : ok = 1 := hok
 have e1 := zCE he
 have e2 := zCE hf
 have HC := hid (zF0 ovk ovi ovt)
 generalize vck ovk ovi ovt = r at *
 clear he hf
 go_enter Tryz.func156, Tryz.ntmps156
 go_wp2_with fail
 have c1 : (((w.alloc (.cells #[.slice tp tn tc, .func (.func 95) #[] #[.pointer (some ⟨b, 0, none⟩)], .map (some mb)] 174)).alloc (.cells #[.int .i64 1, .int .i64 ovk, .int .i64 ovi, .string ovt, .string ova, .string ofd] 44)).alloc (.cells #[.string on, .slice fp fn fc] 59)).cell? ⟨w.heap.size + 1, 1, none⟩ = some (.int .i64 ovk) := by go_simp
 have c2 : (((w.alloc (.cells #[.slice tp tn tc, .func (.func 95) #[] #[.pointer (some ⟨b, 0, none⟩)], .map (some mb)] 174)).alloc (.cells #[.int .i64 1, .int .i64 ovk, .int .i64 ovi, .string ovt, .string ova, .string ofd] 44)).alloc (.cells #[.string on, .slice fp fn fc] 59)).cell? ⟨w.heap.size + 1, 2, none⟩ = some (.int .i64 ovi) := by go_simp
 have c3 : (((w.alloc (.cells #[.slice tp tn tc, .func (.func 95) #[] #[.pointer (some ⟨b, 0, none⟩)], .map (some mb)] 174)).alloc (.cells #[.int .i64 1, .int .i64 ovk, .int .i64 ovi, .string ovt, .string ova, .string ofd] 44)).alloc (.cells #[.string on, .slice fp fn fc] 59)).cell? ⟨w.heap.size + 1, 3, none⟩ = some (.string ovt) := by go_simp
 generalize (((w.alloc (.cells #[.slice tp tn tc, .func (.func 95) #[] #[.pointer (some ⟨b, 0, none⟩)], .map (some mb)] 174)).alloc (.cells #[.int .i64 1, .int .i64 ovk, .int .i64 ovi, .string ovt, .string ova, .string ofd] 44)).alloc (.cells #[.string on, .slice fp fn fc] 59)) = W at *
 go_region_held3 (fun w' => w'.cell? ⟨w.heap.size + 1, 1, none⟩ = some (.int .i64 ovk) ∧ w'.cell? ⟨w.heap.size + 1, 2, none⟩ = some (.int .i64 ovi) ∧ w'.cell? ⟨w.heap.size + 1, 3, none⟩ = some (.string ovt))
  (first | exact KU | (go_keep; done))
  ((go_at_call 109; refine (HC.out _).mono ?_; rintro e w7 ⟨rfl, hB7⟩; have HBU : Hid (Below W.heap.size W w7) := zAA (by repeat (first | exact Below.refl _ _ | refine Below.drew ?_)) hB7 (by simp); have KU := (show w7.cell? ⟨w.heap.size + 1, 1, none⟩ = some (.int .i64 ovk) ∧ w7.cell? ⟨w.heap.size + 1, 2, none⟩ = some (.int .i64 ovi) ∧ w7.cell? ⟨w.heap.size + 1, 3, none⟩ = some (.string ovt) from ⟨(HBU.out.cell (p := ⟨w.heap.size + 1, 1, none⟩) (World.block_lt_of_cell? _ _ c1)).trans c1, (HBU.out.cell (p := ⟨w.heap.size + 1, 2, none⟩) (World.block_lt_of_cell? _ _ c2)).trans c2, (HBU.out.cell (p := ⟨w.heap.size + 1, 3, none⟩) (World.block_lt_of_cell? _ _ c3)).trans c3⟩); clear hB7))
 go_wp2_with fail
 go_ret2
 exact ⟨rfl, zAA HB.out HBU.out HB.out.size⟩
theorem pside_2a (ts : List Tp) (tp : Option Addr) (tn tc b mb : Nat) (K : Kns) (n : Nat) (on : ByteArray) (fp : Option Addr) (fn fc : Nat) (ok ovk ovi : Int) (ovt ova ofd : ByteArray) (w : World) (hs : Scp w ts (.slice tp tn tc) b mb K n) (hok : ok = 2) (hv : ¬ ovk = 0) :
  Calls Tryz.prog 156 #[scV (.slice tp tn tc) b mb, .agg #[.int .i64 ok, .int .i64 ovk, .int .i64 ovi, .string ovt, .string ova, .string ofd], .agg #[.string on, .slice fp fn fc]] w fun e w' => e = .returned (.tuple #[.int .i64 0, .int .i64 4]) ∧ Below w.heap.size w w' := by
 have HB : Hid (Below w.heap.size w (((w.alloc (.cells #[.slice tp tn tc, .func (.func 95) #[] #[.pointer (some ⟨b, 0, none⟩)], .map (some mb)] 174)).alloc (.cells #[.int .i64 ok, .int .i64 ovk, .int .i64 ovi, .string ovt, .string ova, .string ofd] 44)).alloc (.cells #[.string on, .slice fp fn fc] 59))) := (((Below.refl _ _).alloc (Nat.le_refl _) _).alloc (by simp) _).alloc (by simp; omega) _
 have HS := hid hs
 clear hs
 obtain rfl : ok = 2 := hok
 have b1 : (ovk == 0) = false := by simpa using hv
 clear hv
 go_enter Tryz.func156, Tryz.ntmps156
 go_wp2_with fail
 go_ret2
 exact ⟨rfl, HB.out⟩
theorem pside_2b (ts : List Tp) (tp : Option Addr) (tn tc b mb : Nat) (K : Kns) (n : Nat) (on : ByteArray) (fp : Option Addr) (fn fc : Nat) (ok ovk ovi : Int) (ovt ova ofd : ByteArray) (w : World) (hs : Scp w ts (.slice tp tn tc) b mb K n) (hok : ok = 2) (hv : ovk = 0) (hi : ¬ ovi = 0) :
  Calls Tryz.prog 156 #[scV (.slice tp tn tc) b mb, .agg #[.int .i64 ok, .int .i64 ovk, .int .i64 ovi, .string ovt, .string ova, .string ofd], .agg #[.string on, .slice fp fn fc]] w fun e w' => e = .returned (.tuple #[.int .i64 0, .int .i64 4]) ∧ Below w.heap.size w w' := by
 have HB : Hid (Below w.heap.size w (((w.alloc (.cells #[.slice tp tn tc, .func (.func 95) #[] #[.pointer (some ⟨b, 0, none⟩)], .map (some mb)] 174)).alloc (.cells #[.int .i64 ok, .int .i64 ovk, .int .i64 ovi, .string ovt, .string ova, .string ofd] 44)).alloc (.cells #[.string on, .slice fp fn fc] 59))) := (((Below.refl _ _).alloc (Nat.le_refl _) _).alloc (by simp) _).alloc (by simp; omega) _
 have HS := hid hs
 clear hs
 obtain rfl : ok = 2 := hok
 obtain rfl : ovk = 0 := hv
 have b1 : (ovi == 0) = false := by simpa using hi
 clear hi
 go_enter Tryz.func156, Tryz.ntmps156
 go_wp2_with fail
 go_ret2
 exact ⟨rfl, HB.out⟩
theorem pside_2c (ts : List Tp) (tp : Option Addr) (tn tc b mb : Nat) (K : Kns) (n : Nat) (on : ByteArray) (fp : Option Addr) (fn fc : Nat) (ok ovk ovi : Int) (ovt ova ofd : ByteArray) (w : World) (hs : Scp w ts (.slice tp tn tc) b mb K n) (hok : ok = 2) (hv : ovk = 0) (hi : ovi = 0) (ht : emp ovt = false) :
  Calls Tryz.prog 156 #[scV (.slice tp tn tc) b mb, .agg #[.int .i64 ok, .int .i64 ovk, .int .i64 ovi, .string ovt, .string ova, .string ofd], .agg #[.string on, .slice fp fn fc]] w fun e w' => e = .returned (.tuple #[.int .i64 0, .int .i64 4]) ∧ Below w.heap.size w w' := by
 have HB : Hid (Below w.heap.size w (((w.alloc (.cells #[.slice tp tn tc, .func (.func 95) #[] #[.pointer (some ⟨b, 0, none⟩)], .map (some mb)] 174)).alloc (.cells #[.int .i64 ok, .int .i64 ovk, .int .i64 ovi, .string ovt, .string ova, .string ofd] 44)).alloc (.cells #[.string on, .slice fp fn fc] 59))) := (((Below.refl _ _).alloc (Nat.le_refl _) _).alloc (by simp) _).alloc (by simp; omega) _
 have HS := hid hs
 clear hs
 obtain rfl : ok = 2 := hok
 obtain rfl : ovk = 0 := hv
 obtain rfl : ovi = 0 := hi
 obtain ⟨b1, b2⟩ := zDI ht
 clear ht
 go_enter Tryz.func156, Tryz.ntmps156
 go_wp2_with fail
 go_ret2
 exact ⟨rfl, HB.out⟩
theorem pside_2d (ts : List Tp) (tp : Option Addr) (tn tc b mb : Nat) (K : Kns) (n : Nat) (on : ByteArray) (fp : Option Addr) (fn fc : Nat) (ok ovk ovi : Int) (ovt ova ofd : ByteArray) (w : World) (hs : Scp w ts (.slice tp tn tc) b mb K n) (hok : ok = 2) (hv : ovk = 0) (hi : ovi = 0) (ht : emp ovt = true) (he : emp ova = false) :
  Calls Tryz.prog 156 #[scV (.slice tp tn tc) b mb, .agg #[.int .i64 ok, .int .i64 ovk, .int .i64 ovi, .string ovt, .string ova, .string ofd], .agg #[.string on, .slice fp fn fc]] w fun e w' => e = .returned (.tuple #[.int .i64 0, .int .i64 4]) ∧ Below w.heap.size w w' := by
 have HB : Hid (Below w.heap.size w (((w.alloc (.cells #[.slice tp tn tc, .func (.func 95) #[] #[.pointer (some ⟨b, 0, none⟩)], .map (some mb)] 174)).alloc (.cells #[.int .i64 ok, .int .i64 ovk, .int .i64 ovi, .string ovt, .string ova, .string ofd] 44)).alloc (.cells #[.string on, .slice fp fn fc] 59))) := (((Below.refl _ _).alloc (Nat.le_refl _) _).alloc (by simp) _).alloc (by simp; omega) _
 have HS := hid hs
 clear hs
 obtain rfl : ok = 2 := hok
 obtain rfl : ovk = 0 := hv
 obtain rfl : ovi = 0 := hi
 have b1 := zCE ht
 clear ht
 obtain ⟨e1, e2⟩ := zDI he
 clear he
 go_enter Tryz.func156, Tryz.ntmps156
 go_wp2_with fail
 go_ret2
 exact ⟨rfl, HB.out⟩
theorem pside_2e (ts : List Tp) (tp : Option Addr) (tn tc b mb : Nat) (K : Kns) (n : Nat) (on : ByteArray) (fp : Option Addr) (fn fc : Nat) (ok ovk ovi : Int) (ovt ova ofd : ByteArray) (w : World) (hs : Scp w ts (.slice tp tn tc) b mb K n) (hok : ok = 2) (hv : ovk = 0) (hi : ovi = 0) (ht : emp ovt = true) (he : emp ova = true) (fs : List Fd) (hr : Rd w (.row 103 2 (fs.map encF)) (.slice fp fn fc)) (htk : tyk on fs = 0) :
  Calls Tryz.prog 156 #[scV (.slice tp tn tc) b mb, .agg #[.int .i64 ok, .int .i64 ovk, .int .i64 ovi, .string ovt, .string ova, .string ofd], .agg #[.string on, .slice fp fn fc]] w fun e w' => e = .returned (.tuple #[.int .i64 (fck fs ofd).1, .int .i64 (fck fs ofd).2]) ∧ Below w.heap.size w w' := by
 have HB : Hid (Below w.heap.size w (((w.alloc (.cells #[.slice tp tn tc, .func (.func 95) #[] #[.pointer (some ⟨b, 0, none⟩)], .map (some mb)] 174)).alloc (.cells #[.int .i64 ok, .int .i64 ovk, .int .i64 ovi, .string ovt, .string ova, .string ofd] 44)).alloc (.cells #[.string on, .slice fp fn fc] 59))) := (((Below.refl _ _).alloc (Nat.le_refl _) _).alloc (by simp) _).alloc (by simp; omega) _
 have HS := hid hs
 clear hs
 obtain rfl : ok = 2 := hok
 obtain rfl : ovk = 0 := hv
 obtain rfl : ovi = 0 := hi
 have b1 := zCE ht
 clear ht
 have e1 := zCE he
 have HC := hid (fun W (hW : Below w.heap.size w W) => zA5 on fs (.slice fp fn fc) ofd W (hr.later hW) htk)
 generalize (fck fs ofd).1 = r1 at *
 generalize (fck fs ofd).2 = r2 at *
 clear he hr htk
 go_enter Tryz.func156, Tryz.ntmps156
 go_wp2_with (go_at_call 129; refine (HC.out _ HB.out).mono ?_; rintro e w2 ⟨rfl, hb2⟩; have HB2 := hid (zAA HB.out hb2 HB.out.size); clear hb2)
 go_ret2
 exact ⟨rfl, HB2.out⟩
theorem pside_3a (ts : List Tp) (tp : Option Addr) (tn tc b mb : Nat) (K : Kns) (n : Nat) (on : ByteArray) (fp : Option Addr) (fn fc : Nat) (ok ovk ovi : Int) (ovt ova ofd : ByteArray) (w : World) (hs : Scp w ts (.slice tp tn tc) b mb K n) (hok : ok = 3) (hz : ova.size ≤ maxLen) (p1 p2 : Int) (hp : (lkp K ova.data.toList).getD (0, 0) = (p1, p2)) (h1 : ¬ p1 = 1) :
  Calls Tryz.prog 156 #[scV (.slice tp tn tc) b mb, .agg #[.int .i64 ok, .int .i64 ovk, .int .i64 ovi, .string ovt, .string ova, .string ofd], .agg #[.string on, .slice fp fn fc]] w fun e w' => e = .returned (.tuple #[.int .i64 0, .int .i64 6]) ∧ Below w.heap.size w w' := by
 have HB : Hid (Below w.heap.size w (((w.alloc (.cells #[.slice tp tn tc, .func (.func 95) #[] #[.pointer (some ⟨b, 0, none⟩)], .map (some mb)] 174)).alloc (.cells #[.int .i64 ok, .int .i64 ovk, .int .i64 ovi, .string ovt, .string ova, .string ofd] 44)).alloc (.cells #[.string on, .slice fp fn fc] 59))) := (((Below.refl _ _).alloc (Nat.le_refl _) _).alloc (by simp) _).alloc (by simp; omega) _
 have HS := hid hs
 clear hs
 obtain rfl : ok = 3 := hok
 have HZ := hid hz
 have HP := hid hp
 clear hz hp
 have d1 : (p1 != 1) = true := by simpa using h1
 clear h1
 have HB4 : Hid (Below w.heap.size w ((((w.alloc (.cells #[.slice tp tn tc, .func (.func 95) #[] #[.pointer (some ⟨b, 0, none⟩)], .map (some mb)] 174)).alloc (.cells #[.int .i64 3, .int .i64 ovk, .int .i64 ovi, .string ovt, .string ova, .string ofd] 44)).alloc (.cells #[.string on, .slice fp fn fc] 59)).alloc (.cells #[.int .i64 p1, .int .i64 p2] 212))) := HB.out.alloc HB.out.size _
 go_enter Tryz.func156, Tryz.ntmps156
 go_wp2_with (at_lookup; refine zA3 (by rfl) _ _ (by rfl) mb K n (by rfl) (HS.out.km.later HB.out) ova HZ.out (by rfl) (p1, p2) HP.out ?_)
 go_ret2
 exact ⟨rfl, HB4.out⟩
theorem pside_3b (ts : List Tp) (tp : Option Addr) (tn tc b mb : Nat) (K : Kns) (n : Nat) (on : ByteArray) (fp : Option Addr) (fn fc : Nat) (ok ovk ovi : Int) (ovt ova ofd : ByteArray) (w : World) (hs : Scp w ts (.slice tp tn tc) b mb K n) (hok : ok = 3) (hz : ova.size ≤ maxLen) (p1 p2 : Int) (hp : (lkp K ova.data.toList).getD (0, 0) = (p1, p2)) (h1 : p1 = 1) (hv : ¬ ovk = 0) :
  Calls Tryz.prog 156 #[scV (.slice tp tn tc) b mb, .agg #[.int .i64 ok, .int .i64 ovk, .int .i64 ovi, .string ovt, .string ova, .string ofd], .agg #[.string on, .slice fp fn fc]] w fun e w' => e = .returned (.tuple #[.int .i64 0, .int .i64 4]) ∧ Below w.heap.size w w' := by
 have HB : Hid (Below w.heap.size w (((w.alloc (.cells #[.slice tp tn tc, .func (.func 95) #[] #[.pointer (some ⟨b, 0, none⟩)], .map (some mb)] 174)).alloc (.cells #[.int .i64 ok, .int .i64 ovk, .int .i64 ovi, .string ovt, .string ova, .string ofd] 44)).alloc (.cells #[.string on, .slice fp fn fc] 59))) := (((Below.refl _ _).alloc (Nat.le_refl _) _).alloc (by simp) _).alloc (by simp; omega) _
 have HS := hid hs
 clear hs
 obtain rfl : ok = 3 := hok
 have HZ := hid hz
 have HP := hid hp
 clear hz hp
 obtain rfl : p1 = 1 := h1
 have b1 : (ovk == 0) = false := by simpa using hv
 clear hv
 have HB4 : Hid (Below w.heap.size w ((((w.alloc (.cells #[.slice tp tn tc, .func (.func 95) #[] #[.pointer (some ⟨b, 0, none⟩)], .map (some mb)] 174)).alloc (.cells #[.int .i64 3, .int .i64 ovk, .int .i64 ovi, .string ovt, .string ova, .string ofd] 44)).alloc (.cells #[.string on, .slice fp fn fc] 59)).alloc (.cells #[.int .i64 1, .int .i64 p2] 212))) := HB.out.alloc HB.out.size _
 go_enter Tryz.func156, Tryz.ntmps156
 go_wp2_with (at_lookup; refine zA3 (by rfl) _ _ (by rfl) mb K n (by rfl) (HS.out.km.later HB.out) ova HZ.out (by rfl) (1, p2) HP.out ?_)
 go_ret2
 exact ⟨rfl, HB4.out⟩
theorem pside_3c (ts : List Tp) (tp : Option Addr) (tn tc b mb : Nat) (K : Kns) (n : Nat) (on : ByteArray) (fp : Option Addr) (fn fc : Nat) (ok ovk ovi : Int) (ovt ova ofd : ByteArray) (w : World) (hs : Scp w ts (.slice tp tn tc) b mb K n) (hok : ok = 3) (hz : ova.size ≤ maxLen) (p1 p2 : Int) (hp : (lkp K ova.data.toList).getD (0, 0) = (p1, p2)) (h1 : p1 = 1) (hv : ovk = 0) (hi : ¬ ovi = 0) :
  Calls Tryz.prog 156 #[scV (.slice tp tn tc) b mb, .agg #[.int .i64 ok, .int .i64 ovk, .int .i64 ovi, .string ovt, .string ova, .string ofd], .agg #[.string on, .slice fp fn fc]] w fun e w' => e = .returned (.tuple #[.int .i64 0, .int .i64 4]) ∧ Below w.heap.size w w' := by
 have HB : Hid (Below w.heap.size w (((w.alloc (.cells #[.slice tp tn tc, .func (.func 95) #[] #[.pointer (some ⟨b, 0, none⟩)], .map (some mb)] 174)).alloc (.cells #[.int .i64 ok, .int .i64 ovk, .int .i64 ovi, .string ovt, .string ova, .string ofd] 44)).alloc (.cells #[.string on, .slice fp fn fc] 59))) := (((Below.refl _ _).alloc (Nat.le_refl _) _).alloc (by simp) _).alloc (by simp; omega) _
 have HS := hid hs
 clear hs
 obtain rfl : ok = 3 := hok
 have HZ := hid hz
 have HP := hid hp
 clear hz hp
 obtain rfl : p1 = 1 := h1
 obtain rfl : ovk = 0 := hv
 have b1 : (ovi == 0) = false := by simpa using hi
 clear hi
 have HB4 : Hid (Below w.heap.size w ((((w.alloc (.cells #[.slice tp tn tc, .func (.func 95) #[] #[.pointer (some ⟨b, 0, none⟩)], .map (some mb)] 174)).alloc (.cells #[.int .i64 3, .int .i64 0, .int .i64 ovi, .string ovt, .string ova, .string ofd] 44)).alloc (.cells #[.string on, .slice fp fn fc] 59)).alloc (.cells #[.int .i64 1, .int .i64 p2] 212))) := HB.out.alloc HB.out.size _
 go_enter Tryz.func156, Tryz.ntmps156
 go_wp2_with (at_lookup; refine zA3 (by rfl) _ _ (by rfl) mb K n (by rfl) (HS.out.km.later HB.out) ova HZ.out (by rfl) (1, p2) HP.out ?_)
 go_ret2
 exact ⟨rfl, HB4.out⟩
theorem pside_3d (ts : List Tp) (tp : Option Addr) (tn tc b mb : Nat) (K : Kns) (n : Nat) (on : ByteArray) (fp : Option Addr) (fn fc : Nat) (ok ovk ovi : Int) (ovt ova ofd : ByteArray) (w : World) (hs : Scp w ts (.slice tp tn tc) b mb K n) (hok : ok = 3) (hz : ova.size ≤ maxLen) (p1 p2 : Int) (hp : (lkp K ova.data.toList).getD (0, 0) = (p1, p2)) (h1 : p1 = 1) (hv : ovk = 0) (hi : ovi = 0) (ht : emp ovt = false) :
  Calls Tryz.prog 156 #[scV (.slice tp tn tc) b mb, .agg #[.int .i64 ok, .int .i64 ovk, .int .i64 ovi, .string ovt, .string ova, .string ofd], .agg #[.string on, .slice fp fn fc]] w fun e w' => e = .returned (.tuple #[.int .i64 0, .int .i64 4]) ∧ Below w.heap.size w w' := by
 have HB : Hid (Below w.heap.size w (((w.alloc (.cells #[.slice tp tn tc, .func (.func 95) #[] #[.pointer (some ⟨b, 0, none⟩)], .map (some mb)] 174)).alloc (.cells #[.int .i64 ok, .int .i64 ovk, .int .i64 ovi, .string ovt, .string ova, .string ofd] 44)).alloc (.cells #[.string on, .slice fp fn fc] 59))) := (((Below.refl _ _).alloc (Nat.le_refl _) _).alloc (by simp) _).alloc (by simp; omega) _
 have HS := hid hs
 clear hs
 obtain rfl : ok = 3 := hok
 have HZ := hid hz
 have HP := hid hp
 clear hz hp
 obtain rfl : p1 = 1 := h1
 obtain rfl : ovk = 0 := hv
 obtain rfl : ovi = 0 := hi
 obtain ⟨b1, b2⟩ := zDI ht
 clear ht
 have HB4 : Hid (Below w.heap.size w ((((w.alloc (.cells #[.slice tp tn tc, .func (.func 95) #[] #[.pointer (some ⟨b, 0, none⟩)], .map (some mb)] 174)).alloc (.cells #[.int .i64 3, .int .i64 0, .int .i64 0, .string ovt, .string ova, .string ofd] 44)).alloc (.cells #[.string on, .slice fp fn fc] 59)).alloc (.cells #[.int .i64 1, .int .i64 p2] 212))) := HB.out.alloc HB.out.size _
 go_enter Tryz.func156, Tryz.ntmps156
 go_wp2_with (at_lookup; refine zA3 (by rfl) _ _ (by rfl) mb K n (by rfl) (HS.out.km.later HB.out) ova HZ.out (by rfl) (1, p2) HP.out ?_)
 go_ret2
 exact ⟨rfl, HB4.out⟩
theorem pside_3e (ts : List Tp) (tp : Option Addr) (tn tc b mb : Nat) (K : Kns) (n : Nat) (on : ByteArray) (fp : Option Addr) (fn fc : Nat) (ok ovk ovi : Int) (ovt ova ofd : ByteArray) (w : World) (hs : Scp w ts (.slice tp tn tc) b mb K n) (hok : ok = 3) (hz : ova.size ≤ maxLen) (p1 p2 : Int) (hp : (lkp K ova.data.toList).getD (0, 0) = (p1, p2)) (h1 : p1 = 1) (hv : ovk = 0) (hi : ovi = 0) (ht : emp ovt = true) (i : Nat) (hi' : i < ts.length) (h2 : p2 = (i : Int)) (htk : tyk ts[i].n ts[i].f = 0) :
  Calls Tryz.prog 156 #[scV (.slice tp tn tc) b mb, .agg #[.int .i64 ok, .int .i64 ovk, .int .i64 ovi, .string ovt, .string ova, .string ofd], .agg #[.string on, .slice fp fn fc]] w fun e w' => e = .returned (.tuple #[.int .i64 (fck ts[i].f ofd).1, .int .i64 (fck ts[i].f ofd).2]) ∧ Below w.heap.size w w' := by
 have HB : Hid (Below w.heap.size w (((w.alloc (.cells #[.slice tp tn tc, .func (.func 95) #[] #[.pointer (some ⟨b, 0, none⟩)], .map (some mb)] 174)).alloc (.cells #[.int .i64 ok, .int .i64 ovk, .int .i64 ovi, .string ovt, .string ova, .string ofd] 44)).alloc (.cells #[.string on, .slice fp fn fc] 59))) := (((Below.refl _ _).alloc (Nat.le_refl _) _).alloc (by simp) _).alloc (by simp; omega) _
 have HS := hid hs
 clear hs
 obtain rfl : ok = 3 := hok
 have HZ := hid hz
 have HP := hid hp
 clear hz hp
 obtain rfl : p1 = 1 := h1
 obtain rfl : p2 = (i : Int) := h2
 obtain rfl : ovk = 0 := hv
 obtain rfl : ovi = 0 := hi
 have b1 := zCE ht
 clear ht
 obtain ⟨p, cap, e0, hmx, hat⟩ := zAG lenY HS.out.rt
 simp only [Value.slice.injEq] at e0
 obtain ⟨rfl, rfl, rfl⟩ := e0
 obtain ⟨gt, oft, rfl, hrd⟩ := hat (by omega)
 obtain ⟨us, r1, o1⟩ := hrd w (Below.refl _ _) i hi'
 obtain ⟨fv, z1, o2⟩ := rdY o1
 obtain ⟨fp2, fn2, fc2, rfl⟩ := zAB o2
 rw [z1] at r1
 have y0 : w.cell? ⟨gt, oft + i * 2, none⟩ = some (.string ts[i].n) := by simpa using r1 0 _ rfl
 have y1 : w.cell? ⟨gt, oft + i * 2 + 1, none⟩ = some (.slice fp2 fn2 fc2) := r1 1 _ rfl
 have HC := hid (fun W (hW : Below w.heap.size w W) => zA5 ts[i].n ts[i].f (.slice fp2 fn2 fc2) ofd W (o2.later hW) htk)
 have HY := hid (And.intro y0 y1)
 generalize (fck ts[i].f ofd).1 = q1 at *
 generalize (fck ts[i].f ofd).2 = q2 at *
 obtain ⟨tnm, htnm⟩ : ∃ x, ts[i].n = x := ⟨_, rfl⟩
 rw [htnm] at HC HY
 obtain ⟨tn, htn⟩ : ∃ x, ts.length = x := ⟨_, rfl⟩
 rw [htn] at HB HS ⊢
 have i1 : (0 : Int) ≤ (i : Int) := by omega
 have i2 : (i : Int) < (tn : Int) := by omega
 clear hrd r1 o1 o2 z1 y0 y1 htnm htn hi' htk hmx hat
 have HB4 : Hid (Below w.heap.size w ((((w.alloc (.cells #[.slice (some ⟨gt, oft, none⟩) tn tc, .func (.func 95) #[] #[.pointer (some ⟨b, 0, none⟩)], .map (some mb)] 174)).alloc (.cells #[.int .i64 3, .int .i64 0, .int .i64 0, .string ovt, .string ova, .string ofd] 44)).alloc (.cells #[.string on, .slice fp fn fc] 59)).alloc (.cells #[.int .i64 1, .int .i64 (i : Int)] 212))) := HB.out.alloc HB.out.size _
 go_enter Tryz.func156, Tryz.ntmps156
 go_wp2_with (at_lookup; refine zA3 (by rfl) _ _ (by rfl) mb K n (by rfl) (HS.out.km.later HB.out) ova HZ.out (by rfl) (1, (i : Int)) HP.out ?_)
 have c0 : ((((w.alloc (.cells #[.slice (some ⟨gt, oft, none⟩) tn tc, .func (.func 95) #[] #[.pointer (some ⟨b, 0, none⟩)], .map (some mb)] 174)).alloc (.cells #[.int .i64 3, .int .i64 0, .int .i64 0, .string ovt, .string ova, .string ofd] 44)).alloc (.cells #[.string on, .slice fp fn fc] 59)).alloc (.cells #[.int .i64 1, .int .i64 (i : Int)] 212)).cell? ⟨w.heap.size, 0, none⟩ = some (.slice (some ⟨gt, oft, none⟩) tn tc) := by go_simp
 have c1 : ((((w.alloc (.cells #[.slice (some ⟨gt, oft, none⟩) tn tc, .func (.func 95) #[] #[.pointer (some ⟨b, 0, none⟩)], .map (some mb)] 174)).alloc (.cells #[.int .i64 3, .int .i64 0, .int .i64 0, .string ovt, .string ova, .string ofd] 44)).alloc (.cells #[.string on, .slice fp fn fc] 59)).alloc (.cells #[.int .i64 1, .int .i64 (i : Int)] 212)).cell? ⟨w.heap.size + 3, 1, none⟩ = some (.int .i64 (i : Int)) := by go_simp
 have c2 : ((((w.alloc (.cells #[.slice (some ⟨gt, oft, none⟩) tn tc, .func (.func 95) #[] #[.pointer (some ⟨b, 0, none⟩)], .map (some mb)] 174)).alloc (.cells #[.int .i64 3, .int .i64 0, .int .i64 0, .string ovt, .string ova, .string ofd] 44)).alloc (.cells #[.string on, .slice fp fn fc] 59)).alloc (.cells #[.int .i64 1, .int .i64 (i : Int)] 212)).cell? ⟨w.heap.size + 1, 5, none⟩ = some (.string ofd) := by go_simp
 have c3 : ((((w.alloc (.cells #[.slice (some ⟨gt, oft, none⟩) tn tc, .func (.func 95) #[] #[.pointer (some ⟨b, 0, none⟩)], .map (some mb)] 174)).alloc (.cells #[.int .i64 3, .int .i64 0, .int .i64 0, .string ovt, .string ova, .string ofd] 44)).alloc (.cells #[.string on, .slice fp fn fc] 59)).alloc (.cells #[.int .i64 1, .int .i64 (i : Int)] 212)).cell? ⟨gt, oft + i * 2, none⟩ = some (.string tnm) := by exact (HB4.out.cell (p := ⟨gt, _, none⟩) (World.block_lt_of_cell? _ _ HY.out.1)).trans HY.out.1
 have c4 : ((((w.alloc (.cells #[.slice (some ⟨gt, oft, none⟩) tn tc, .func (.func 95) #[] #[.pointer (some ⟨b, 0, none⟩)], .map (some mb)] 174)).alloc (.cells #[.int .i64 3, .int .i64 0, .int .i64 0, .string ovt, .string ova, .string ofd] 44)).alloc (.cells #[.string on, .slice fp fn fc] 59)).alloc (.cells #[.int .i64 1, .int .i64 (i : Int)] 212)).cell? ⟨gt, oft + i * 2 + 1, none⟩ = some (.slice fp2 fn2 fc2) := by exact (HB4.out.cell (p := ⟨gt, _, none⟩) (World.block_lt_of_cell? _ _ HY.out.2)).trans HY.out.2
 generalize ((((w.alloc (.cells #[.slice (some ⟨gt, oft, none⟩) tn tc, .func (.func 95) #[] #[.pointer (some ⟨b, 0, none⟩)], .map (some mb)] 174)).alloc (.cells #[.int .i64 3, .int .i64 0, .int .i64 0, .string ovt, .string ova, .string ofd] 44)).alloc (.cells #[.string on, .slice fp fn fc] 59)).alloc (.cells #[.int .i64 1, .int .i64 (i : Int)] 212)) = W at *
 go_region_held3 (fun w' => w'.cell? ⟨w.heap.size, 0, none⟩ = some (.slice (some ⟨gt, oft, none⟩) tn tc) ∧ w'.cell? ⟨w.heap.size + 3, 1, none⟩ = some (.int .i64 (i : Int)) ∧ w'.cell? ⟨w.heap.size + 1, 5, none⟩ = some (.string ofd) ∧ w'.cell? ⟨gt, oft + i * 2, none⟩ = some (.string tnm) ∧ w'.cell? ⟨gt, oft + i * 2 + 1, none⟩ = some (.slice fp2 fn2 fc2))
  (first | exact KU | (go_keep; done))
  ((go_at_call 129; refine (HC.out _ (by repeat (first | exact HB4.out | refine Below.drew ?_))).mono ?_; rintro e w7 ⟨rfl, hB7⟩; have HBU : Hid (Below W.heap.size W w7) := zAA (by repeat (first | exact Below.refl _ _ | refine Below.drew ?_)) hB7 (by simp); have KU := (show w7.cell? ⟨w.heap.size, 0, none⟩ = some (.slice (some ⟨gt, oft, none⟩) tn tc) ∧ w7.cell? ⟨w.heap.size + 3, 1, none⟩ = some (.int .i64 (i : Int)) ∧ w7.cell? ⟨w.heap.size + 1, 5, none⟩ = some (.string ofd) ∧ w7.cell? ⟨gt, oft + i * 2, none⟩ = some (.string tnm) ∧ w7.cell? ⟨gt, oft + i * 2 + 1, none⟩ = some (.slice fp2 fn2 fc2) from ⟨(HBU.out.cell (p := ⟨w.heap.size, 0, none⟩) (World.block_lt_of_cell? _ _ c0)).trans c0, (HBU.out.cell (p := ⟨w.heap.size + 3, 1, none⟩) (World.block_lt_of_cell? _ _ c1)).trans c1, (HBU.out.cell (p := ⟨w.heap.size + 1, 5, none⟩) (World.block_lt_of_cell? _ _ c2)).trans c2, (HBU.out.cell (p := ⟨gt, oft + i * 2, none⟩) (World.block_lt_of_cell? _ _ c3)).trans c3, (HBU.out.cell (p := ⟨gt, oft + i * 2 + 1, none⟩) (World.block_lt_of_cell? _ _ c4)).trans c4⟩); clear hB7))
 go_wp2_with fail
 go_ret2
 exact ⟨rfl, zAA HB4.out HBU.out HB4.out.size⟩
theorem zDG (ts : List Tp) (ws : List Pt) (own : Tp) (o : Opd) (tv fv : Value) (b mb : Nat) (K : Kns) (n : Nat) (w : World) (hs : Scp w ts tv b mb K n) (hF : Rd w (.row 103 2 (own.f.map encF)) fv) (hkn : zA9 ts ws) (hk : Knw ts ws K) (hty : ∀ i (hi : i < ts.length), tyk ts[i].n ts[i].f = 0) (hown : o.k = 2 → tyk own.n own.f = 0) (hz : o.va.size ≤ maxLen) :
   Calls Tryz.prog 156 #[scV tv b mb, opV o, .agg #[.string own.n, fv]] w fun e w' => e = .returned (.tuple #[.int .i64 (sdk ts ws own o).1, .int .i64 (sdk ts ws own o).2]) ∧ Below w.heap.size w w' := by
 obtain ⟨tp, tn, tc, rfl⟩ := zAB hs.rt
 obtain ⟨fp, fn, fc, rfl⟩ := zAB hF
 obtain ⟨on, ofs⟩ := own
 obtain ⟨ok, ovk, ovi, ovt, ova, ofd⟩ := o
 unfold sdk nzv
 simp only at hF hown hz ⊢
 by_cases h1 : 1 ≤ ok ∧ ok ≤ 3
 . rw [if_neg (fun c => c h1)]
   by_cases k1 : ok = 1
   . rw [if_pos k1]
     cases he : emp ova with
     | false =>
       rw [if_pos (.inl rfl)]
       exact pside_1a ts tp tn tc b mb K n on fp fn fc ok ovk ovi ovt ova ofd w hs k1 he
     | true =>
       cases hf : emp ofd with
       | false =>
         rw [if_pos (.inr rfl)]
         exact pside_1b ts tp tn tc b mb K n on fp fn fc ok ovk ovi ovt ova ofd w hs k1 he hf
       | true =>
         rw [if_neg (by simp)]
         exact pside_1c ts tp tn tc b mb K n on fp fn fc ok ovk ovi ovt ova ofd w hs k1 he hf
   . rw [if_neg k1]
     by_cases k2 : ok = 2
     . rw [if_pos k2]
       by_cases v1 : ovk = 0
       . by_cases v2 : ovi = 0
         . cases v3 : emp ovt with
           | false =>
             rw [if_pos (.inr (by simp))]
             exact pside_2c ts tp tn tc b mb K n on fp fn fc ok ovk ovi ovt ova ofd w hs k2 v1 v2 v3
           | true =>
             cases he : emp ova with
             | false =>
              rw [if_pos (.inl rfl)]
              exact pside_2d ts tp tn tc b mb K n on fp fn fc ok ovk ovi ovt ova ofd w hs k2 v1 v2 v3 he
             | true =>
              rw [if_neg (by simp [v1, v2])]
              exact pside_2e ts tp tn tc b mb K n on fp fn fc ok ovk ovi ovt ova ofd w hs k2 v1 v2 v3 he ofs hF (hown k2)
         . rw [if_pos (.inr (by simp [v2]))]
           exact pside_2b ts tp tn tc b mb K n on fp fn fc ok ovk ovi ovt ova ofd w hs k2 v1 v2
       . rw [if_pos (.inr (by simp [v1]))]
         exact pside_2a ts tp tn tc b mb K n on fp fn fc ok ovk ovi ovt ova ofd w hs k2 v1
     . rw [if_neg k2]
       have k3 : ok = 3 := by omega
       obtain ⟨p1, p2, hp⟩ : ∃ p1 p2, (lkp K ova.data.toList).getD (0, 0) = (p1, p2) := ⟨_, _, rfl⟩
       rcases zA2 (q := fun p : Pt => seq p.va ova) ws 0 with c | ⟨j, hj, c, _⟩
       . have c' : ptq ws ova = -1 := c
         rw [if_pos (by rw [c']; decide)]
         have hne := hk.1 ova (by rw [c']; decide)
         rw [hp] at hne
         exact pside_3a ts tp tn tc b mb K n on fp fn fc ok ovk ovi ovt ova ofd w hs k3 hz p1 p2 hp hne
       . have c' : ptq ws ova = (j : Int) := by show ixq _ _ _ = _; rw [c]; simp
         have hl := hk.2 ova j hj c'
         rw [hl] at hp
         simp only [Option.getD_some, Prod.mk.injEq] at hp
         obtain ⟨rfl, hp2⟩ := hp
         have hp' : (lkp K ova.data.toList).getD (0, 0) = (1, p2) := by rw [hl, ← hp2]; rfl
         rw [if_neg (by rw [c']; omega)]
         by_cases v1 : ovk = 0
         . by_cases v2 : ovi = 0
           . cases v3 : emp ovt with
             | false =>
              rw [if_pos (by simp)]
              exact pside_3d ts tp tn tc b mb K n on fp fn fc ok ovk ovi ovt ova ofd w hs k3 hz 1 p2 hp' rfl v1 v2 v3
             | true =>
              rw [if_neg (by simp [v1, v2])]
              obtain ⟨i, hi, hti⟩ := hkn j hj
              have ht : tyOf ts ws ova = ts[i] := by
               unfold tyOf
               rw [c']
               simp [hj, hti, hi]
              rw [ht]
              exact pside_3e ts tp tn tc b mb K n on fp fn fc ok ovk ovi ovt ova ofd w hs k3 hz 1 p2 hp' rfl v1 v2 v3 i hi (by rw [← hp2, hti]) (hty i hi)
           . rw [if_pos (by simp [v2])]
             exact pside_3c ts tp tn tc b mb K n on fp fn fc ok ovk ovi ovt ova ofd w hs k3 hz 1 p2 hp' rfl v1 v2
         . rw [if_pos (by simp [v1])]
           exact pside_3b ts tp tn tc b mb K n on fp fn fc ok ovk ovi ovt ova ofd w hs k3 hz 1 p2 hp' rfl v1
 . rw [if_pos h1]
   exact pside_k ts tp tn tc b mb K n on fp fn fc ok ovk ovi ovt ova ofd w hs h1
end Go.Proofs.YtnlmknbhppdliaaGreatDoor.Chk
