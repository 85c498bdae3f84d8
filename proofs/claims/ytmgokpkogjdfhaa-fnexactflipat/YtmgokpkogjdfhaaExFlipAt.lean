/-
  What is proved: the exact law on FlipAt returns true (the walk).
-/
import Derived.Test.YtmgokpkogjdfhaaRows
import Derived.Test.YtmgokpkogjdfhaaEx
import Derived.Test.YtmgokpkogjdfhaaFlips
namespace Go.Proofs.Ytmgokpkogjdfhaa.ExFlipAt
open Go.ChangeShapes Go.WideShapes Go.ChangeAt Go.RowKit
open Sl (Sl Own Off)
open OpenSl (tc nc pc)
open Dev Ex
open LawD (Fits)
set_option linter.unusedVariables false

set_option maxRecDepth 100000 in
set_option maxHeartbeats 3200000 in
theorem walk (w : World) (v : Value) (ts : List ByteArray) (xs : List (Int × ByteArray)) (z pl by_ : Int) (hD : Dev w v ts xs) (hsD : ∀ s ∈ ts, s.size ≤ maxLen) (hxD : ∀ y ∈ xs, y.2.size ≤ maxLen) :
    Calls Try.prog 11 #[v, .int .i64 z, .int .i64 pl, .int .i64 by_] w fun e w' => e = .returned (.bool true) ∧ Below w.heap.size w w' := by
  have HVD := Lib.hid hD
  obtain ⟨sD, uD, rfl, _, _⟩ := hD
  have HSD := Lib.hid hsD
  have HXD := Lib.hid hxD
  clear hsD hxD
  have HB0 := Lib.hid (Below.refl w.heap.size w)
  have HLD := Lib.hid (liesD' HVD.out)
  obtain ⟨cd, ecd⟩ : ∃ cd, Flips.code ts xs z pl by_ = cd := ⟨_, rfl⟩
  have ECD := Lib.hid ecd
  clear ecd
  obtain ⟨tr, etr⟩ : ∃ tr, Flips.fts ts xs z pl by_ = tr := ⟨_, rfl⟩
  have ETR := Lib.hid etr
  clear etr
  obtain ⟨xr, exr⟩ : ∃ xr, Flips.fxs ts xs z pl by_ = xr := ⟨_, rfl⟩
  have EXR := Lib.hid exr
  clear exr
  obtain ⟨U1, eU1, hb, hz, n10, n11⟩ := boxU w 48 sD uD
  obtain ⟨GD, eGD⟩ : ∃ GD, w.heap.size = GD := ⟨_, rfl⟩
  have HGD := Lib.hid eGD
  have HY1 := Lib.hid hz
  rw [eGD] at n10 n11
  clear hz
  have HD2_D := Lib.hid (HVD.out.below hb)
  have HB2 := Lib.hid (HB0.out.trans (hb.mono HB0.out.size))
  have HZ2 := Lib.hid hb.size
  clear hb HVD HB0
  go_enter Try.func11, Try.ntmps11
  go_wp2_with fail
  clear eU1 eGD
  refine (LawD.szDevice U1 _ ts xs HD2_D.out HSD.out HXD.out 1048576 (by omega)).mono ?_
  rintro e u3 ⟨⟨r, rfl, hr⟩, hb⟩
  obtain ⟨c4_GD0, c4_GD1⟩ := box_below hb n10 n11
  have HD4_D := Lib.hid (HD2_D.out.below hb)
  have HB4 := Lib.hid (HB2.out.trans (hb.mono HB2.out.size))
  have HZ4 := Lib.hid hb.size
  clear hb n10 n11 HD2_D HB2
  rcases hr with rfl | ⟨R3, rfl, hR3, hfit⟩
  · go_wp2_with fail
    go_ret
    exact ⟨rfl, HB4.out⟩
  have HFITD := Lib.hid hfit
  clear hfit
  have dR3 : decide ((R3 : Int) < 0) = false := decide_eq_false (by omega)
  have LENX : Hid (1 + ts.length + xs.length * 2 ≤ 10000000) := Lib.hid (by have := HFITD.out.1; have := HFITD.out.2.1; omega)
  have LENG : Hid (1 + tr.length + xr.length * 2 ≤ 10000000) := Lib.hid (by rw [← ETR.out, ← EXR.out]; exact Flips.len_ok HFITD.out.1 HFITD.out.2.1 z pl by_)
  go_wp2_with fail
  refine (LawD.toDevice u3 _ ts xs HD4_D.out HFITD.out.1 HFITD.out.2.1).mono ?_
  rintro e u5 ⟨r5, rfl, ho, hb⟩
  have HLc1 := Lib.hid (liesD ho)
  have HOc1 := Lib.hid ho
  clear ho
  obtain ⟨c6_GD0, c6_GD1⟩ := box_below hb c4_GD0 c4_GD1
  have HD6_D := Lib.hid (HD4_D.out.below hb)
  have HB6 := Lib.hid (HB4.out.trans (hb.mono HB4.out.size))
  have HZ6 := Lib.hid hb.size
  clear hb c4_GD0 c4_GD1 HD4_D HB4
  go_wp2_with fail
  refine (Flips.spec u5 _ ts xs HOc1.out.dev HFITD.out.1 HFITD.out.2.1 z pl by_).mono ?_
  rw [ECD.out, ETR.out, EXR.out]
  rintro e u7 ⟨r7, rfl, ho, hb⟩
  have HLW := Lib.hid (liesD ho)
  have HOW := Lib.hid ho
  obtain ⟨aW, pW, bW, qW, rfl⟩ := form ho.dev
  clear ho
  obtain ⟨c8_GD0, c8_GD1⟩ := box_below hb c6_GD0 c6_GD1
  have HD8_D := Lib.hid (HD6_D.out.below hb)
  have HD8_c1 := Lib.hid (HOc1.out.below hb)
  have HB8 := Lib.hid (HB6.out.trans (hb.mono HB6.out.size))
  have HZ8 := Lib.hid hb.size
  clear hb c6_GD0 c6_GD1 HD6_D HOc1 HB6
  obtain ⟨U9, eU9, hb, hz, n90, n91⟩ := boxU u7 26 (.slice aW tr.length pW) (.slice bW xr.length qW)
  obtain ⟨GW, eGW⟩ : ∃ GW, u7.heap.size = GW := ⟨_, rfl⟩
  have HGW := Lib.hid eGW
  have HY9 := Lib.hid hz
  rw [eGW] at n90 n91
  clear hz
  obtain ⟨c10_GD0, c10_GD1⟩ := box_below hb c8_GD0 c8_GD1
  have HD10_D := Lib.hid (HD8_D.out.below hb)
  have HD10_c1 := Lib.hid (HD8_c1.out.below hb)
  have HD10_W := Lib.hid (HOW.out.below hb)
  have HB10 := Lib.hid (HB8.out.trans (hb.mono HB8.out.size))
  have HZ10 := Lib.hid hb.size
  clear hb c8_GD0 c8_GD1 HD8_D HD8_c1 HOW HB8
  go_wp2_with fail
  clear eU9 eGW
  refine (LawD.toDevice U9 _ ts xs HD10_D.out HFITD.out.1 HFITD.out.2.1).mono ?_
  rintro e u11 ⟨r11, rfl, ho, hb⟩
  have HLX := Lib.hid (liesD ho)
  have HOX := Lib.hid ho
  clear ho
  obtain ⟨c12_GD0, c12_GD1⟩ := box_below hb c10_GD0 c10_GD1
  obtain ⟨c12_GW0, c12_GW1⟩ := box_below hb n90 n91
  have HD12_D := Lib.hid (HD10_D.out.below hb)
  have HD12_W := Lib.hid (HD10_W.out.below hb)
  have HB12 := Lib.hid (HB10.out.trans (hb.mono HB10.out.size))
  have HZ12 := Lib.hid hb.size
  clear hb c10_GD0 c10_GD1 n90 n91 HD10_D HD10_W HB10
  obtain ⟨a13, p13, b13, q13, rfl⟩ := form HOX.out.dev
  obtain ⟨U14, eU14, hb, hz, n140, n141⟩ := boxU u11 26 (.slice a13 ts.length p13) (.slice b13 xs.length q13)
  obtain ⟨GX, eGX⟩ : ∃ GX, u11.heap.size = GX := ⟨_, rfl⟩
  have HGX := Lib.hid eGX
  have HY14 := Lib.hid hz
  rw [eGX] at n140 n141
  clear hz
  obtain ⟨c15_GD0, c15_GD1⟩ := box_below hb c12_GD0 c12_GD1
  obtain ⟨c15_GW0, c15_GW1⟩ := box_below hb c12_GW0 c12_GW1
  have HD15_D := Lib.hid (HD12_D.out.below hb)
  have HD15_W := Lib.hid (HD12_W.out.below hb)
  have HD15_X := Lib.hid (HOX.out.below hb)
  have HB15 := Lib.hid (HB12.out.trans (hb.mono HB12.out.size))
  have HZ15 := Lib.hid hb.size
  clear hb c12_GD0 c12_GD1 c12_GW0 c12_GW1 HD12_D HD12_W HOX HB12
  go_wp2_with fail
  clear eU14 eGX
  refine (Flips.impl U14 _ ts xs HD15_X.out.dev HFITD.out.1 HFITD.out.2.1 z pl by_).mono ?_
  rw [ECD.out, ETR.out, EXR.out]
  rintro e u16 ⟨r16, rfl, ho, hb⟩
  have HLG := Lib.hid (liesD ho)
  have HOG := Lib.hid ho
  obtain ⟨aG, pG, bG, qG, rfl⟩ := form ho.dev
  clear ho
  obtain ⟨c17_GD0, c17_GD1⟩ := box_below hb c15_GD0 c15_GD1
  obtain ⟨c17_GW0, c17_GW1⟩ := box_below hb c15_GW0 c15_GW1
  obtain ⟨c17_GX0, c17_GX1⟩ := box_below hb n140 n141
  have HD17_D := Lib.hid (HD15_D.out.below hb)
  have HD17_W := Lib.hid (HD15_W.out.below hb)
  have HD17_X := Lib.hid (HD15_X.out.below hb)
  have HB17 := Lib.hid (HB15.out.trans (hb.mono HB15.out.size))
  have HZ17 := Lib.hid hb.size
  clear hb c15_GD0 c15_GD1 c15_GW0 c15_GW1 n140 n141 HD15_D HD15_W HD15_X HB15
  obtain ⟨U18, eU18, hb, hz, n180, n181⟩ := boxU u16 26 (.slice aG tr.length pG) (.slice bG xr.length qG)
  obtain ⟨GG, eGG⟩ : ∃ GG, u16.heap.size = GG := ⟨_, rfl⟩
  have HGG := Lib.hid eGG
  have HY18 := Lib.hid hz
  rw [eGG] at n180 n181
  clear hz
  obtain ⟨c19_GD0, c19_GD1⟩ := box_below hb c17_GD0 c17_GD1
  obtain ⟨c19_GW0, c19_GW1⟩ := box_below hb c17_GW0 c17_GW1
  obtain ⟨c19_GX0, c19_GX1⟩ := box_below hb c17_GX0 c17_GX1
  have HD19_D := Lib.hid (HD17_D.out.below hb)
  have HD19_W := Lib.hid (HD17_W.out.below hb)
  have HD19_X := Lib.hid (HD17_X.out.below hb)
  have HD19_G := Lib.hid (HOG.out.below hb)
  have HB19 := Lib.hid (HB17.out.trans (hb.mono HB17.out.size))
  have HZ19 := Lib.hid hb.size
  clear hb c17_GD0 c17_GD1 c17_GW0 c17_GW1 c17_GX0 c17_GX1 HD17_D HD17_W HD17_X HOG HB17
  go_wp2_with fail
  clear eU18 eGG
  refine (LawD.eqDevice U18 _ _ tr xr HD19_G.out.dev HD19_W.out.dev).mono ?_
  rintro e u20 ⟨rfl, hb⟩
  obtain ⟨c21_GD0, c21_GD1⟩ := box_below hb c19_GD0 c19_GD1
  obtain ⟨c21_GW0, c21_GW1⟩ := box_below hb c19_GW0 c19_GW1
  obtain ⟨c21_GX0, c21_GX1⟩ := box_below hb c19_GX0 c19_GX1
  obtain ⟨c21_GG0, c21_GG1⟩ := box_below hb n180 n181
  have HD21_D := Lib.hid (HD19_D.out.below hb)
  have HD21_W := Lib.hid (HD19_W.out.below hb)
  have HD21_X := Lib.hid (HD19_X.out.below hb)
  have HD21_G := Lib.hid (HD19_G.out.below hb)
  have HB21 := Lib.hid (HB19.out.trans (hb.mono HB19.out.size))
  have HZ21 := Lib.hid hb.size
  clear hb c19_GD0 c19_GD1 c19_GW0 c19_GW1 c19_GX0 c19_GX1 n180 n181 HD19_D HD19_W HD19_X HD19_G HB19
  have HQ := Lib.hid (fun u (hb : Below u20.heap.size u20 u) => (box_below hb c21_GX0 c21_GX1))
  have HQ2 := Lib.hid (fun u (hb : Below u20.heap.size u20 u) => (box_below hb c21_GD0 c21_GD1))
  go_wp2_with fail
  go_region_held3 (fun w' => w'.cell? ⟨GX, 0, none⟩ = some (.slice a13 ts.length p13) ∧ w'.cell? ⟨GX, 1, none⟩ = some (.slice b13 xs.length q13) ∧ w'.cell? ⟨GD, 0, none⟩ = some sD ∧ w'.cell? ⟨GD, 1, none⟩ = some uD)
    (first | exact ⟨c21_GX0, c21_GX1, c21_GD0, c21_GD1⟩ | exact ⟨e4, e5, e6, e7⟩ | exact ⟨e0, e1, e2, e3⟩)
    (first
    | (go_at_call 35; refine (LawD.toDevice _ _ ts xs (HD21_D.out.below (below_drewN (Below.refl _ _) _)) HFITD.out.1 HFITD.out.2.1).mono ?_; rintro e y22 ⟨rr, rfl, ho, hb⟩; have HEY : Hid (Below u20.heap.size u20 y22) := Lib.hid ⟨hb.os, hb.tape, hb.output, hb.size, hb.block⟩; have HOY := Lib.hid ho; obtain ⟨e0, e1⟩ := HQ.out y22 HEY.out; obtain ⟨e2, e3⟩ := HQ2.out y22 HEY.out; clear ho hb)
    | (go_at_call 30; refine (LawD.eqDevice _ _ _ ts xs (HD21_X.out.dev.below (by first | exact HEY.out | exact below_drewN HEY.out _)) HOY.out.dev).mono ?_; rintro e z22 ⟨rfl, hb⟩; have HEZ := Lib.hid (HEY.out.trans (hb.mono HEY.out.size)); obtain ⟨e4, e5⟩ := HQ.out z22 HEZ.out; obtain ⟨e6, e7⟩ := HQ2.out z22 HEZ.out; clear hb))
  have hb : Below u20.heap.size u20 z22 := HEZ.out
  clear e0 e1 e2 e3 e4 e5 e6 e7 HQ HQ2 HEY HEZ HOY
  obtain ⟨c23_GD0, c23_GD1⟩ := box_below hb c21_GD0 c21_GD1
  obtain ⟨c23_GW0, c23_GW1⟩ := box_below hb c21_GW0 c21_GW1
  obtain ⟨c23_GX0, c23_GX1⟩ := box_below hb c21_GX0 c21_GX1
  obtain ⟨c23_GG0, c23_GG1⟩ := box_below hb c21_GG0 c21_GG1
  have HD23_D := Lib.hid (HD21_D.out.below hb)
  have HD23_W := Lib.hid (HD21_W.out.below hb)
  have HD23_X := Lib.hid (HD21_X.out.below hb)
  have HD23_G := Lib.hid (HD21_G.out.below hb)
  have HB23 := Lib.hid (HB21.out.trans (hb.mono HB21.out.size))
  have HZ23 := Lib.hid hb.size
  clear hb c21_GD0 c21_GD1 c21_GW0 c21_GW1 c21_GX0 c21_GX1 c21_GG0 c21_GG1 HD21_D HD21_W HD21_X HD21_G HB21
  go_wp2_with fail
  obtain ⟨m1, m2, me, mo1, mo2, map_⟩ := HD23_X.out
  obtain ⟨rfl, rfl⟩ : (Value.slice a13 ts.length p13) = m1 ∧ (Value.slice b13 xs.length q13) = m2 := by simpa using me
  refine (LawD.markDevice z22 _ (.slice a13 ts.length p13) (.slice b13 xs.length q13) _ _ 1 _ _ mo1 mo2 map_ LENX.out).mono ?_
  rintro e u24 ⟨rfl, hw1, hw2, ht⟩
  obtain ⟨c24_GD0, c24_GD1⟩ := box_turns ht HLX.out (g := GD) (by have := HGD.out; have := HY1.out; have := HZ2.out; have := HZ4.out; have := HZ6.out; have := HZ8.out; have := HGW.out; have := HY9.out; have := HZ10.out; have := HZ12.out; have := HGX.out; have := HY14.out; have := HZ15.out; have := HZ17.out; have := HGG.out; have := HY18.out; have := HZ19.out; have := HZ21.out; have := HZ23.out; omega) c23_GD0 c23_GD1
  obtain ⟨c24_GW0, c24_GW1⟩ := box_turns ht HLX.out (g := GW) (by have := HGD.out; have := HY1.out; have := HZ2.out; have := HZ4.out; have := HZ6.out; have := HZ8.out; have := HGW.out; have := HY9.out; have := HZ10.out; have := HZ12.out; have := HGX.out; have := HY14.out; have := HZ15.out; have := HZ17.out; have := HGG.out; have := HY18.out; have := HZ19.out; have := HZ21.out; have := HZ23.out; omega) c23_GW0 c23_GW1
  obtain ⟨c24_GX0, c24_GX1⟩ := box_turns ht HLX.out (g := GX) (by have := HGD.out; have := HY1.out; have := HZ2.out; have := HZ4.out; have := HZ6.out; have := HZ8.out; have := HGW.out; have := HY9.out; have := HZ10.out; have := HZ12.out; have := HGX.out; have := HY14.out; have := HZ15.out; have := HZ17.out; have := HGG.out; have := HY18.out; have := HZ19.out; have := HZ21.out; have := HZ23.out; omega) c23_GX0 c23_GX1
  obtain ⟨c24_GG0, c24_GG1⟩ := box_turns ht HLX.out (g := GG) (by have := HGD.out; have := HY1.out; have := HZ2.out; have := HZ4.out; have := HZ6.out; have := HZ8.out; have := HGW.out; have := HY9.out; have := HZ10.out; have := HZ12.out; have := HGX.out; have := HY14.out; have := HZ15.out; have := HZ17.out; have := HGG.out; have := HY18.out; have := HZ19.out; have := HZ21.out; have := HZ23.out; omega) c23_GG0 c23_GG1
  have HD24_D := Lib.hid (dev_turns ht HLX.out HLD.out (by have := HGD.out; have := HY1.out; have := HZ2.out; have := HZ4.out; have := HZ6.out; have := HZ8.out; have := HGW.out; have := HY9.out; have := HZ10.out; have := HZ12.out; have := HGX.out; have := HY14.out; have := HZ15.out; have := HZ17.out; have := HGG.out; have := HY18.out; have := HZ19.out; have := HZ21.out; have := HZ23.out; omega) HD23_D.out)
  have HD24_W := Lib.hid (devO_turns ht HLX.out HLW.out (by have := HGD.out; have := HY1.out; have := HZ2.out; have := HZ4.out; have := HZ6.out; have := HZ8.out; have := HGW.out; have := HY9.out; have := HZ10.out; have := HZ12.out; have := HGX.out; have := HY14.out; have := HZ15.out; have := HZ17.out; have := HGG.out; have := HY18.out; have := HZ19.out; have := HZ21.out; have := HZ23.out; omega) HD23_W.out)
  have HD24_G := Lib.hid (devO_turns ht HLX.out HLG.out (by have := HGD.out; have := HY1.out; have := HZ2.out; have := HZ4.out; have := HZ6.out; have := HZ8.out; have := HGW.out; have := HY9.out; have := HZ10.out; have := HZ12.out; have := HGX.out; have := HY14.out; have := HZ15.out; have := HZ17.out; have := HGG.out; have := HY18.out; have := HZ19.out; have := HZ21.out; have := HZ23.out; omega) HD23_G.out)
  have HB24 := Lib.hid (HB23.out.trans (below_turns ht HLX.out (by have := HGD.out; have := HY1.out; have := HZ2.out; have := HZ4.out; have := HZ6.out; have := HZ8.out; have := HGW.out; have := HY9.out; have := HZ10.out; have := HZ12.out; have := HGX.out; have := HY14.out; have := HZ15.out; have := HZ17.out; have := HGG.out; have := HY18.out; have := HZ19.out; have := HZ21.out; have := HZ23.out; omega) (by have := HGD.out; have := HY1.out; have := HZ2.out; have := HZ4.out; have := HZ6.out; have := HZ8.out; have := HGW.out; have := HY9.out; have := HZ10.out; have := HZ12.out; have := HGX.out; have := HY14.out; have := HZ15.out; have := HZ17.out; have := HGG.out; have := HY18.out; have := HZ19.out; have := HZ21.out; have := HZ23.out; omega)))
  have HZ24 := Lib.hid ht.size
  have HW24a := Lib.hid hw1.sl
  have HW24b := Lib.hid hw2.sl
  obtain ⟨KX, eKX⟩ : ∃ KX, 1 + ts.length + xs.length * 2 = KX := ⟨_, rfl⟩
  rw [eKX]
  have EKX := Lib.hid eKX
  have dKX : decide ((KX : Int) < 0) = false := decide_eq_false (by omega)
  clear ht hw1 hw2 mo1 mo2 map_ me eKX c23_GD0 c23_GD1 c23_GW0 c23_GW1 c23_GX0 c23_GX1 c23_GG0 c23_GG1 HD23_D HD23_W HD23_G HB23 HD23_X
  go_wp2_with fail
  refine (LawD.eqDevice u24 _ _ tr xr HD24_G.out.dev HD24_W.out.dev).mono ?_
  rintro e u25 ⟨rfl, hb⟩
  obtain ⟨c26_GD0, c26_GD1⟩ := box_below hb c24_GD0 c24_GD1
  obtain ⟨c26_GW0, c26_GW1⟩ := box_below hb c24_GW0 c24_GW1
  obtain ⟨c26_GX0, c26_GX1⟩ := box_below hb c24_GX0 c24_GX1
  obtain ⟨c26_GG0, c26_GG1⟩ := box_below hb c24_GG0 c24_GG1
  have HD26_D := Lib.hid (HD24_D.out.below hb)
  have HD26_W := Lib.hid (HD24_W.out.below hb)
  have HD26_G := Lib.hid (HD24_G.out.below hb)
  have HB26 := Lib.hid (HB24.out.trans (hb.mono HB24.out.size))
  have HZ26 := Lib.hid hb.size
  clear hb c24_GD0 c24_GD1 c24_GW0 c24_GW1 c24_GX0 c24_GX1 c24_GG0 c24_GG1 HD24_D HD24_W HD24_G HB24
  go_wp2_with fail
  obtain ⟨m1, m2, me, mo1, mo2, map_⟩ := HD26_G.out
  obtain ⟨rfl, rfl⟩ : (Value.slice aG tr.length pG) = m1 ∧ (Value.slice bG xr.length qG) = m2 := by simpa using me
  refine (LawD.markDevice u25 _ (.slice aG tr.length pG) (.slice bG xr.length qG) _ _ 1 _ _ mo1 mo2 map_ LENG.out).mono ?_
  rintro e u27 ⟨rfl, hw1, hw2, ht⟩
  obtain ⟨c27_GD0, c27_GD1⟩ := box_turns ht HLG.out (g := GD) (by have := HGD.out; have := HY1.out; have := HZ2.out; have := HZ4.out; have := HZ6.out; have := HZ8.out; have := HGW.out; have := HY9.out; have := HZ10.out; have := HZ12.out; have := HGX.out; have := HY14.out; have := HZ15.out; have := HZ17.out; have := HGG.out; have := HY18.out; have := HZ19.out; have := HZ21.out; have := HZ23.out; have := HZ24.out; have := HZ26.out; omega) c26_GD0 c26_GD1
  obtain ⟨c27_GW0, c27_GW1⟩ := box_turns ht HLG.out (g := GW) (by have := HGD.out; have := HY1.out; have := HZ2.out; have := HZ4.out; have := HZ6.out; have := HZ8.out; have := HGW.out; have := HY9.out; have := HZ10.out; have := HZ12.out; have := HGX.out; have := HY14.out; have := HZ15.out; have := HZ17.out; have := HGG.out; have := HY18.out; have := HZ19.out; have := HZ21.out; have := HZ23.out; have := HZ24.out; have := HZ26.out; omega) c26_GW0 c26_GW1
  obtain ⟨c27_GX0, c27_GX1⟩ := box_turns ht HLG.out (g := GX) (by have := HGD.out; have := HY1.out; have := HZ2.out; have := HZ4.out; have := HZ6.out; have := HZ8.out; have := HGW.out; have := HY9.out; have := HZ10.out; have := HZ12.out; have := HGX.out; have := HY14.out; have := HZ15.out; have := HZ17.out; have := HGG.out; have := HY18.out; have := HZ19.out; have := HZ21.out; have := HZ23.out; have := HZ24.out; have := HZ26.out; omega) c26_GX0 c26_GX1
  obtain ⟨c27_GG0, c27_GG1⟩ := box_turns ht HLG.out (g := GG) (by have := HGD.out; have := HY1.out; have := HZ2.out; have := HZ4.out; have := HZ6.out; have := HZ8.out; have := HGW.out; have := HY9.out; have := HZ10.out; have := HZ12.out; have := HGX.out; have := HY14.out; have := HZ15.out; have := HZ17.out; have := HGG.out; have := HY18.out; have := HZ19.out; have := HZ21.out; have := HZ23.out; have := HZ24.out; have := HZ26.out; omega) c26_GG0 c26_GG1
  have HD27_D := Lib.hid (dev_turns ht HLG.out HLD.out (by have := HGD.out; have := HY1.out; have := HZ2.out; have := HZ4.out; have := HZ6.out; have := HZ8.out; have := HGW.out; have := HY9.out; have := HZ10.out; have := HZ12.out; have := HGX.out; have := HY14.out; have := HZ15.out; have := HZ17.out; have := HGG.out; have := HY18.out; have := HZ19.out; have := HZ21.out; have := HZ23.out; have := HZ24.out; have := HZ26.out; omega) HD26_D.out)
  have HD27_W := Lib.hid (devO_turns ht HLG.out HLW.out (by have := HGD.out; have := HY1.out; have := HZ2.out; have := HZ4.out; have := HZ6.out; have := HZ8.out; have := HGW.out; have := HY9.out; have := HZ10.out; have := HZ12.out; have := HGX.out; have := HY14.out; have := HZ15.out; have := HZ17.out; have := HGG.out; have := HY18.out; have := HZ19.out; have := HZ21.out; have := HZ23.out; have := HZ24.out; have := HZ26.out; omega) HD26_W.out)
  have HB27 := Lib.hid (HB26.out.trans (below_turns ht HLG.out (by have := HGD.out; have := HY1.out; have := HZ2.out; have := HZ4.out; have := HZ6.out; have := HZ8.out; have := HGW.out; have := HY9.out; have := HZ10.out; have := HZ12.out; have := HGX.out; have := HY14.out; have := HZ15.out; have := HZ17.out; have := HGG.out; have := HY18.out; have := HZ19.out; have := HZ21.out; have := HZ23.out; have := HZ24.out; have := HZ26.out; omega) (by have := HGD.out; have := HY1.out; have := HZ2.out; have := HZ4.out; have := HZ6.out; have := HZ8.out; have := HGW.out; have := HY9.out; have := HZ10.out; have := HZ12.out; have := HGX.out; have := HY14.out; have := HZ15.out; have := HZ17.out; have := HGG.out; have := HY18.out; have := HZ19.out; have := HZ21.out; have := HZ23.out; have := HZ24.out; have := HZ26.out; omega)))
  have HZ27 := Lib.hid ht.size
  have HW27a := Lib.hid hw1.sl
  have HW27b := Lib.hid hw2.sl
  obtain ⟨KG, eKG⟩ : ∃ KG, 1 + tr.length + xr.length * 2 = KG := ⟨_, rfl⟩
  rw [eKG]
  have EKG := Lib.hid eKG
  have dKG : decide ((KG : Int) < 0) = false := decide_eq_false (by omega)
  clear ht hw1 hw2 mo1 mo2 map_ me eKG c26_GD0 c26_GD1 c26_GW0 c26_GW1 c26_GX0 c26_GX1 c26_GG0 c26_GG1 HD26_D HD26_W HB26 HD26_G
  go_wp2_with fail
  refine (LawD.heldDevice u27 (.slice aG tr.length pG) (.slice bG xr.length qG) tr.length xr.length 1 HW27a.out HW27b.out LENG.out).mono ?_
  rintro e u28 ⟨rfl, hb⟩
  rw [EKG.out]
  obtain ⟨c29_GD0, c29_GD1⟩ := box_below hb c27_GD0 c27_GD1
  obtain ⟨c29_GW0, c29_GW1⟩ := box_below hb c27_GW0 c27_GW1
  obtain ⟨c29_GX0, c29_GX1⟩ := box_below hb c27_GX0 c27_GX1
  obtain ⟨c29_GG0, c29_GG1⟩ := box_below hb c27_GG0 c27_GG1
  have HD29_D := Lib.hid (HD27_D.out.below hb)
  have HD29_W := Lib.hid (HD27_W.out.below hb)
  have HW29_a := Lib.hid (HW27a.out.below hb)
  have HW29_b := Lib.hid (HW27b.out.below hb)
  have HB29 := Lib.hid (HB27.out.trans (hb.mono HB27.out.size))
  have HZ29 := Lib.hid hb.size
  clear hb c27_GD0 c27_GD1 c27_GW0 c27_GW1 c27_GX0 c27_GX1 c27_GG0 c27_GG1 HD27_D HD27_W HW27a HW27b HB27
  go_wp2_with fail
  refine (LawD.toDevice u28 _ ts xs HD29_D.out HFITD.out.1 HFITD.out.2.1).mono ?_
  rintro e u30 ⟨r30, rfl, ho, hb⟩
  have HLc2 := Lib.hid (liesD ho)
  have HOc2 := Lib.hid ho
  clear ho
  obtain ⟨c31_GD0, c31_GD1⟩ := box_below hb c29_GD0 c29_GD1
  obtain ⟨c31_GW0, c31_GW1⟩ := box_below hb c29_GW0 c29_GW1
  obtain ⟨c31_GX0, c31_GX1⟩ := box_below hb c29_GX0 c29_GX1
  obtain ⟨c31_GG0, c31_GG1⟩ := box_below hb c29_GG0 c29_GG1
  have HD31_D := Lib.hid (HD29_D.out.below hb)
  have HD31_W := Lib.hid (HD29_W.out.below hb)
  have HW31_a := Lib.hid (HW29_a.out.below hb)
  have HW31_b := Lib.hid (HW29_b.out.below hb)
  have HB31 := Lib.hid (HB29.out.trans (hb.mono HB29.out.size))
  have HZ31 := Lib.hid hb.size
  clear hb c29_GD0 c29_GD1 c29_GW0 c29_GW1 c29_GX0 c29_GX1 c29_GG0 c29_GG1 HD29_D HD29_W HW29_a HW29_b HB29
  go_wp2_with fail
  refine (Flips.impl u30 _ ts xs HOc2.out.dev HFITD.out.1 HFITD.out.2.1 z pl by_).mono ?_
  rw [ECD.out, ETR.out, EXR.out]
  rintro e u32 ⟨r32, rfl, ho, hb⟩
  have HLH := Lib.hid (liesD ho)
  have HOH := Lib.hid ho
  obtain ⟨aH, pH, bH, qH, rfl⟩ := form ho.dev
  clear ho
  obtain ⟨c33_GD0, c33_GD1⟩ := box_below hb c31_GD0 c31_GD1
  obtain ⟨c33_GW0, c33_GW1⟩ := box_below hb c31_GW0 c31_GW1
  obtain ⟨c33_GX0, c33_GX1⟩ := box_below hb c31_GX0 c31_GX1
  obtain ⟨c33_GG0, c33_GG1⟩ := box_below hb c31_GG0 c31_GG1
  have HD33_D := Lib.hid (HD31_D.out.below hb)
  have HD33_W := Lib.hid (HD31_W.out.below hb)
  have HD33_c2 := Lib.hid (HOc2.out.below hb)
  have HW33_a := Lib.hid (HW31_a.out.below hb)
  have HW33_b := Lib.hid (HW31_b.out.below hb)
  have HB33 := Lib.hid (HB31.out.trans (hb.mono HB31.out.size))
  have HZ33 := Lib.hid hb.size
  clear hb c31_GD0 c31_GD1 c31_GW0 c31_GW1 c31_GX0 c31_GX1 c31_GG0 c31_GG1 HD31_D HD31_W HOc2 HW31_a HW31_b HB31
  obtain ⟨U34, eU34, hb, hz, n340, n341⟩ := boxU u32 26 (.slice aH tr.length pH) (.slice bH xr.length qH)
  obtain ⟨GH, eGH⟩ : ∃ GH, u32.heap.size = GH := ⟨_, rfl⟩
  have HGH := Lib.hid eGH
  have HY34 := Lib.hid hz
  rw [eGH] at n340 n341
  clear hz
  obtain ⟨c35_GD0, c35_GD1⟩ := box_below hb c33_GD0 c33_GD1
  obtain ⟨c35_GW0, c35_GW1⟩ := box_below hb c33_GW0 c33_GW1
  obtain ⟨c35_GX0, c35_GX1⟩ := box_below hb c33_GX0 c33_GX1
  obtain ⟨c35_GG0, c35_GG1⟩ := box_below hb c33_GG0 c33_GG1
  have HD35_D := Lib.hid (HD33_D.out.below hb)
  have HD35_W := Lib.hid (HD33_W.out.below hb)
  have HD35_c2 := Lib.hid (HD33_c2.out.below hb)
  have HD35_H := Lib.hid (HOH.out.below hb)
  have HW35_a := Lib.hid (HW33_a.out.below hb)
  have HW35_b := Lib.hid (HW33_b.out.below hb)
  have HB35 := Lib.hid (HB33.out.trans (hb.mono HB33.out.size))
  have HZ35 := Lib.hid hb.size
  clear hb c33_GD0 c33_GD1 c33_GW0 c33_GW1 c33_GX0 c33_GX1 c33_GG0 c33_GG1 HD33_D HD33_W HD33_c2 HOH HW33_a HW33_b HB33
  go_wp2_with fail
  clear eU34 eGH
  refine (LawD.eqDevice U34 _ _ tr xr HD35_H.out.dev HD35_W.out.dev).mono ?_
  rintro e u36 ⟨rfl, hb⟩
  obtain ⟨c37_GD0, c37_GD1⟩ := box_below hb c35_GD0 c35_GD1
  obtain ⟨c37_GW0, c37_GW1⟩ := box_below hb c35_GW0 c35_GW1
  obtain ⟨c37_GX0, c37_GX1⟩ := box_below hb c35_GX0 c35_GX1
  obtain ⟨c37_GG0, c37_GG1⟩ := box_below hb c35_GG0 c35_GG1
  obtain ⟨c37_GH0, c37_GH1⟩ := box_below hb n340 n341
  have HD37_D := Lib.hid (HD35_D.out.below hb)
  have HD37_W := Lib.hid (HD35_W.out.below hb)
  have HD37_H := Lib.hid (HD35_H.out.below hb)
  have HW37_a := Lib.hid (HW35_a.out.below hb)
  have HW37_b := Lib.hid (HW35_b.out.below hb)
  have HB37 := Lib.hid (HB35.out.trans (hb.mono HB35.out.size))
  have HZ37 := Lib.hid hb.size
  clear hb c35_GD0 c35_GD1 c35_GW0 c35_GW1 c35_GX0 c35_GX1 c35_GG0 c35_GG1 n340 n341 HD35_D HD35_W HD35_H HW35_a HW35_b HB35
  go_wp2_with fail
  refine (LawD.heldDevice u36 (.slice aG tr.length pG) (.slice bG xr.length qG) tr.length xr.length 1 HW37_a.out HW37_b.out LENG.out).mono ?_
  rintro e u38 ⟨rfl, hb⟩
  rw [EKG.out]
  obtain ⟨c39_GD0, c39_GD1⟩ := box_below hb c37_GD0 c37_GD1
  obtain ⟨c39_GW0, c39_GW1⟩ := box_below hb c37_GW0 c37_GW1
  obtain ⟨c39_GX0, c39_GX1⟩ := box_below hb c37_GX0 c37_GX1
  obtain ⟨c39_GG0, c39_GG1⟩ := box_below hb c37_GG0 c37_GG1
  obtain ⟨c39_GH0, c39_GH1⟩ := box_below hb c37_GH0 c37_GH1
  have HD39_D := Lib.hid (HD37_D.out.below hb)
  have HD39_W := Lib.hid (HD37_W.out.below hb)
  have HD39_H := Lib.hid (HD37_H.out.below hb)
  have HW39_a := Lib.hid (HW37_a.out.below hb)
  have HW39_b := Lib.hid (HW37_b.out.below hb)
  have HB39 := Lib.hid (HB37.out.trans (hb.mono HB37.out.size))
  have HZ39 := Lib.hid hb.size
  clear hb c37_GD0 c37_GD1 c37_GW0 c37_GW1 c37_GX0 c37_GX1 c37_GG0 c37_GG1 c37_GH0 c37_GH1 HD37_D HD37_W HD37_H HW37_a HW37_b HB37
  go_wp2_with fail
  go_ret
  exact ⟨rfl, HB39.out⟩

theorem walk_any {H : Type} {enc : TypeId × Value → H} {W : World} {base b0 : Nat} {spare : Nat → Bool} {held : Bool} {v : Value} {d : DataW H} {p : List MemPlace}
    (o : Value.okWide Try.prog W .any b0 48 v) (h : DataW.Trod enc Try.prog W base spare held 48 v d p) (z pl by_ : Int) :
    Calls Try.prog 11 #[v, .int .i64 z, .int .i64 pl, .int .i64 by_] W fun e w' => e = .returned (.bool true) ∧ Below W.heap.size W w' := by
  obtain ⟨ts, xs, hd, hs, hx⟩ := open_dev o h
  exact walk W v ts xs z pl by_ hd hs hx
end Go.Proofs.Ytmgokpkogjdfhaa.ExFlipAt
