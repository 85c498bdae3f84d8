/-
  What is proved: the exact law on CrashWith returns true (the walk).
-/
import Derived.Test.YtmgokpkogjdfhaaRows
import Derived.Test.YtmgokpkogjdfhaaEx
import Derived.Test.YtmgokpkogjdfhaaCrashes
import Derived.Test.YtmgokpkogjdfhaaLawN
import Derived.Test.YtmgokpkogjdfhaaEx2
namespace Go.Proofs.Ytmgokpkogjdfhaa.ExCrashWith
open Go.ChangeShapes Go.WideShapes Go.ChangeAt Go.RowKit
open Sl (Sl Own Off)
open OpenSl (tc nc pc)
open Dev Ex
open LawD (Fits)
set_option linter.unusedVariables false

set_option maxRecDepth 100000 in
set_option maxHeartbeats 3200000 in
theorem walk (w : World) (v fv : Value) (ts : List ByteArray) (xs : List (Int × ByteArray)) (fs : List Int) (hD : Dev w v ts xs) (hsD : ∀ s ∈ ts, s.size ≤ maxLen) (hxD : ∀ y ∈ xs, y.2.size ≤ maxLen) (hF : Sl w 1 fv fs.length (nc fs)) :
    Calls Try.prog 10 #[v, fv] w fun e w' => e = .returned (.bool true) ∧ Below w.heap.size w w' := by
  have HVD := Lib.hid hD
  obtain ⟨sD, uD, rfl, _, _⟩ := hD
  have HSD := Lib.hid hsD
  have HXD := Lib.hid hxD
  clear hsD hxD
  have HB0 := Lib.hid (Below.refl w.heap.size w)
  have HLD := Lib.hid (liesD' HVD.out)
  have HVF := Lib.hid hF
  have HLF := Lib.hid (lies_sl hF (by omega))
  obtain ⟨af, pf, rfl, _, hpf⟩ := hF.form
  unfold maxLen at hpf
  clear hF
  obtain ⟨cd, ecd⟩ : ∃ cd, Crashes.code ts xs fs = cd := ⟨_, rfl⟩
  have ECD := Lib.hid ecd
  clear ecd
  obtain ⟨tr, etr⟩ : ∃ tr, Crashes.yts ts xs fs = tr := ⟨_, rfl⟩
  have ETR := Lib.hid etr
  clear etr
  obtain ⟨xr, exr⟩ : ∃ xr, ([] : List (Int × ByteArray)) = xr := ⟨_, rfl⟩
  have EXR := Lib.hid exr
  clear exr
  obtain ⟨U1, eU1, hb, hz, n10, n11⟩ := boxU w 48 sD uD
  obtain ⟨GD, eGD⟩ : ∃ GD, w.heap.size = GD := ⟨_, rfl⟩
  have HGD := Lib.hid eGD
  have HY1 := Lib.hid hz
  rw [eGD] at n10 n11
  clear hz
  have HD2_D := Lib.hid (HVD.out.below hb)
  have HN2_F := Lib.hid (HVF.out.below hb)
  have HB2 := Lib.hid (HB0.out.trans (hb.mono HB0.out.size))
  have HZ2 := Lib.hid hb.size
  clear hb HVD HVF HB0
  by_cases hlong : 1048576 < fs.length
  · go_enter Try.func10, Try.ntmps10
    go_wp2_with fail
    go_ret
    exact ⟨rfl, HB2.out⟩
  have dlong : decide (1048576 < (fs.length : Int)) = false := decide_eq_false (by omega)
  have HFL := Lib.hid (show fs.length ≤ 1048576 by omega)
  clear hlong
  go_enter Try.func10, Try.ntmps10
  go_wp2_with fail
  clear eU1 eGD
  refine (LawD.szDevice U1 _ ts xs HD2_D.out HSD.out HXD.out 1048576 (by omega)).mono ?_
  rintro e u3 ⟨⟨r, rfl, hr⟩, hb⟩
  obtain ⟨c4_GD0, c4_GD1⟩ := box_below hb n10 n11
  have HD4_D := Lib.hid (HD2_D.out.below hb)
  have HN4_F := Lib.hid (HN2_F.out.below hb)
  have HB4 := Lib.hid (HB2.out.trans (hb.mono HB2.out.size))
  have HZ4 := Lib.hid hb.size
  clear hb n10 n11 HD2_D HN2_F HB2
  rcases hr with rfl | ⟨R3, rfl, hR3, hfit⟩
  · go_wp2_with fail
    go_ret
    exact ⟨rfl, HB4.out⟩
  have HFITD := Lib.hid hfit
  clear hfit
  have dR3 : decide ((R3 : Int) < 0) = false := decide_eq_false (by omega)
  have LENX : Hid (1 + ts.length + xs.length * 2 ≤ 10000000) := Lib.hid (by have := HFITD.out.1; have := HFITD.out.2.1; omega)
  have LENG : Hid (1 + tr.length + xr.length * 2 ≤ 10000000) := Lib.hid (by rw [← ETR.out, ← EXR.out]; exact Crashes.len_ok HFITD.out.1)
  have LENF : Hid (1 + ts.length + xs.length * 2 + fs.length ≤ 10000000) := Lib.hid (by have := HFITD.out.1; have := HFITD.out.2.1; have := HFL.out; omega)
  go_wp2_with fail
  refine (LawD.toDevice u3 _ ts xs HD4_D.out HFITD.out.1 HFITD.out.2.1).mono ?_
  rintro e u5 ⟨r5, rfl, ho, hb⟩
  have HLc1 := Lib.hid (liesD ho)
  have HOc1 := Lib.hid ho
  clear ho
  obtain ⟨c6_GD0, c6_GD1⟩ := box_below hb c4_GD0 c4_GD1
  have HD6_D := Lib.hid (HD4_D.out.below hb)
  have HN6_F := Lib.hid (HN4_F.out.below hb)
  have HB6 := Lib.hid (HB4.out.trans (hb.mono HB4.out.size))
  have HZ6 := Lib.hid hb.size
  clear hb c4_GD0 c4_GD1 HD4_D HN4_F HB4
  go_wp2_with fail
  refine (LawN.toIntS u5 _ fs HN6_F.out HFL.out).mono ?_
  rintro e u7 ⟨r7, rfl, ho, hb⟩
  have HLf1 := Lib.hid (lies_of ho (by omega))
  have HOf1 := Lib.hid ho
  clear ho
  obtain ⟨c8_GD0, c8_GD1⟩ := box_below hb c6_GD0 c6_GD1
  have HD8_D := Lib.hid (HD6_D.out.below hb)
  have HD8_c1 := Lib.hid (HOc1.out.below hb)
  have HN8_F := Lib.hid (HN6_F.out.below hb)
  have HB8 := Lib.hid (HB6.out.trans (hb.mono HB6.out.size))
  have HZ8 := Lib.hid hb.size
  clear hb c6_GD0 c6_GD1 HD6_D HOc1 HN6_F HB6
  go_wp2_with fail
  refine (Crashes.spec u7 _ _ ts xs fs HD8_c1.out.dev HOf1.out.sl HFL.out).mono ?_
  rw [ECD.out, ETR.out, EXR.out]
  rintro e u9 ⟨r9, rfl, ho, hb⟩
  have HLW := Lib.hid (liesD ho)
  have HOW := Lib.hid ho
  obtain ⟨aW, pW, bW, qW, rfl⟩ := form ho.dev
  clear ho
  obtain ⟨c10_GD0, c10_GD1⟩ := box_below hb c8_GD0 c8_GD1
  have HD10_D := Lib.hid (HD8_D.out.below hb)
  have HD10_c1 := Lib.hid (HD8_c1.out.below hb)
  have HN10_F := Lib.hid (HN8_F.out.below hb)
  have HN10_f1 := Lib.hid (HOf1.out.below hb)
  have HB10 := Lib.hid (HB8.out.trans (hb.mono HB8.out.size))
  have HZ10 := Lib.hid hb.size
  clear hb c8_GD0 c8_GD1 HD8_D HD8_c1 HN8_F HOf1 HB8
  obtain ⟨U11, eU11, hb, hz, n110, n111⟩ := boxU u9 26 (.slice aW tr.length pW) (.slice bW xr.length qW)
  obtain ⟨GW, eGW⟩ : ∃ GW, u9.heap.size = GW := ⟨_, rfl⟩
  have HGW := Lib.hid eGW
  have HY11 := Lib.hid hz
  rw [eGW] at n110 n111
  clear hz
  obtain ⟨c12_GD0, c12_GD1⟩ := box_below hb c10_GD0 c10_GD1
  have HD12_D := Lib.hid (HD10_D.out.below hb)
  have HD12_c1 := Lib.hid (HD10_c1.out.below hb)
  have HD12_W := Lib.hid (HOW.out.below hb)
  have HN12_F := Lib.hid (HN10_F.out.below hb)
  have HN12_f1 := Lib.hid (HN10_f1.out.below hb)
  have HB12 := Lib.hid (HB10.out.trans (hb.mono HB10.out.size))
  have HZ12 := Lib.hid hb.size
  clear hb c10_GD0 c10_GD1 HD10_D HD10_c1 HOW HN10_F HN10_f1 HB10
  go_wp2_with fail
  clear eU11 eGW
  refine (LawD.toDevice U11 _ ts xs HD12_D.out HFITD.out.1 HFITD.out.2.1).mono ?_
  rintro e u13 ⟨r13, rfl, ho, hb⟩
  have HLX := Lib.hid (liesD ho)
  have HOX := Lib.hid ho
  clear ho
  obtain ⟨c14_GD0, c14_GD1⟩ := box_below hb c12_GD0 c12_GD1
  obtain ⟨c14_GW0, c14_GW1⟩ := box_below hb n110 n111
  have HD14_D := Lib.hid (HD12_D.out.below hb)
  have HD14_W := Lib.hid (HD12_W.out.below hb)
  have HN14_F := Lib.hid (HN12_F.out.below hb)
  have HB14 := Lib.hid (HB12.out.trans (hb.mono HB12.out.size))
  have HZ14 := Lib.hid hb.size
  clear hb c12_GD0 c12_GD1 n110 n111 HD12_D HD12_W HN12_F HB12
  obtain ⟨a15, p15, b15, q15, rfl⟩ := form HOX.out.dev
  obtain ⟨U16, eU16, hb, hz, n160, n161⟩ := boxU u13 26 (.slice a15 ts.length p15) (.slice b15 xs.length q15)
  obtain ⟨GX, eGX⟩ : ∃ GX, u13.heap.size = GX := ⟨_, rfl⟩
  have HGX := Lib.hid eGX
  have HY16 := Lib.hid hz
  rw [eGX] at n160 n161
  clear hz
  obtain ⟨c17_GD0, c17_GD1⟩ := box_below hb c14_GD0 c14_GD1
  obtain ⟨c17_GW0, c17_GW1⟩ := box_below hb c14_GW0 c14_GW1
  have HD17_D := Lib.hid (HD14_D.out.below hb)
  have HD17_W := Lib.hid (HD14_W.out.below hb)
  have HD17_X := Lib.hid (HOX.out.below hb)
  have HN17_F := Lib.hid (HN14_F.out.below hb)
  have HB17 := Lib.hid (HB14.out.trans (hb.mono HB14.out.size))
  have HZ17 := Lib.hid hb.size
  clear hb c14_GD0 c14_GD1 c14_GW0 c14_GW1 HD14_D HD14_W HOX HN14_F HB14
  go_wp2_with fail
  clear eU16 eGX
  refine (LawN.toIntS U16 _ fs HN17_F.out HFL.out).mono ?_
  rintro e u18 ⟨r18, rfl, ho, hb⟩
  have HLN := Lib.hid (lies_of ho (by omega))
  have HON := Lib.hid ho
  clear ho
  obtain ⟨c19_GD0, c19_GD1⟩ := box_below hb c17_GD0 c17_GD1
  obtain ⟨c19_GW0, c19_GW1⟩ := box_below hb c17_GW0 c17_GW1
  obtain ⟨c19_GX0, c19_GX1⟩ := box_below hb n160 n161
  have HD19_D := Lib.hid (HD17_D.out.below hb)
  have HD19_W := Lib.hid (HD17_W.out.below hb)
  have HD19_X := Lib.hid (HD17_X.out.below hb)
  have HN19_F := Lib.hid (HN17_F.out.below hb)
  have HB19 := Lib.hid (HB17.out.trans (hb.mono HB17.out.size))
  have HZ19 := Lib.hid hb.size
  clear hb c17_GD0 c17_GD1 c17_GW0 c17_GW1 n160 n161 HD17_D HD17_W HD17_X HN17_F HB17
  go_wp2_with fail
  refine (Crashes.impl u18 _ _ ts xs fs HD19_X.out.dev HON.out.sl HFL.out).mono ?_
  rw [ECD.out, ETR.out, EXR.out]
  rintro e u20 ⟨r20, rfl, ho, hb⟩
  have HLG := Lib.hid (liesD ho)
  have HOG := Lib.hid ho
  obtain ⟨aG, pG, bG, qG, rfl⟩ := form ho.dev
  clear ho
  obtain ⟨c21_GD0, c21_GD1⟩ := box_below hb c19_GD0 c19_GD1
  obtain ⟨c21_GW0, c21_GW1⟩ := box_below hb c19_GW0 c19_GW1
  obtain ⟨c21_GX0, c21_GX1⟩ := box_below hb c19_GX0 c19_GX1
  have HD21_D := Lib.hid (HD19_D.out.below hb)
  have HD21_W := Lib.hid (HD19_W.out.below hb)
  have HD21_X := Lib.hid (HD19_X.out.below hb)
  have HN21_F := Lib.hid (HN19_F.out.below hb)
  have HN21_N := Lib.hid (HON.out.below hb)
  have HB21 := Lib.hid (HB19.out.trans (hb.mono HB19.out.size))
  have HZ21 := Lib.hid hb.size
  clear hb c19_GD0 c19_GD1 c19_GW0 c19_GW1 c19_GX0 c19_GX1 HD19_D HD19_W HD19_X HN19_F HON HB19
  obtain ⟨U22, eU22, hb, hz, n220, n221⟩ := boxU u20 26 (.slice aG tr.length pG) (.slice bG xr.length qG)
  obtain ⟨GG, eGG⟩ : ∃ GG, u20.heap.size = GG := ⟨_, rfl⟩
  have HGG := Lib.hid eGG
  have HY22 := Lib.hid hz
  rw [eGG] at n220 n221
  clear hz
  obtain ⟨c23_GD0, c23_GD1⟩ := box_below hb c21_GD0 c21_GD1
  obtain ⟨c23_GW0, c23_GW1⟩ := box_below hb c21_GW0 c21_GW1
  obtain ⟨c23_GX0, c23_GX1⟩ := box_below hb c21_GX0 c21_GX1
  have HD23_D := Lib.hid (HD21_D.out.below hb)
  have HD23_W := Lib.hid (HD21_W.out.below hb)
  have HD23_X := Lib.hid (HD21_X.out.below hb)
  have HD23_G := Lib.hid (HOG.out.below hb)
  have HN23_F := Lib.hid (HN21_F.out.below hb)
  have HN23_N := Lib.hid (HN21_N.out.below hb)
  have HB23 := Lib.hid (HB21.out.trans (hb.mono HB21.out.size))
  have HZ23 := Lib.hid hb.size
  clear hb c21_GD0 c21_GD1 c21_GW0 c21_GW1 c21_GX0 c21_GX1 HD21_D HD21_W HD21_X HOG HN21_F HN21_N HB21
  go_wp2_with fail
  clear eU22 eGG
  refine (LawD.eqDevice U22 _ _ tr xr HD23_G.out.dev HD23_W.out.dev).mono ?_
  rintro e u24 ⟨rfl, hb⟩
  obtain ⟨c25_GD0, c25_GD1⟩ := box_below hb c23_GD0 c23_GD1
  obtain ⟨c25_GW0, c25_GW1⟩ := box_below hb c23_GW0 c23_GW1
  obtain ⟨c25_GX0, c25_GX1⟩ := box_below hb c23_GX0 c23_GX1
  obtain ⟨c25_GG0, c25_GG1⟩ := box_below hb n220 n221
  have HD25_D := Lib.hid (HD23_D.out.below hb)
  have HD25_W := Lib.hid (HD23_W.out.below hb)
  have HD25_X := Lib.hid (HD23_X.out.below hb)
  have HD25_G := Lib.hid (HD23_G.out.below hb)
  have HN25_F := Lib.hid (HN23_F.out.below hb)
  have HN25_N := Lib.hid (HN23_N.out.below hb)
  have HB25 := Lib.hid (HB23.out.trans (hb.mono HB23.out.size))
  have HZ25 := Lib.hid hb.size
  clear hb c23_GD0 c23_GD1 c23_GW0 c23_GW1 c23_GX0 c23_GX1 n220 n221 HD23_D HD23_W HD23_X HD23_G HN23_F HN23_N HB23
  have HQ := Lib.hid (fun u (hb : Below u24.heap.size u24 u) => (box_below hb c25_GX0 c25_GX1))
  have HQ2 := Lib.hid (fun u (hb : Below u24.heap.size u24 u) => (box_below hb c25_GD0 c25_GD1))
  go_wp2_with fail
  go_region_held3 (fun w' => w'.cell? ⟨GX, 0, none⟩ = some (.slice a15 ts.length p15) ∧ w'.cell? ⟨GX, 1, none⟩ = some (.slice b15 xs.length q15) ∧ w'.cell? ⟨GD, 0, none⟩ = some sD ∧ w'.cell? ⟨GD, 1, none⟩ = some uD)
    (first | exact ⟨c25_GX0, c25_GX1, c25_GD0, c25_GD1⟩ | exact ⟨e4, e5, e6, e7⟩ | exact ⟨e0, e1, e2, e3⟩)
    (first
    | (go_at_call 35; refine (LawD.toDevice _ _ ts xs (HD25_D.out.below (below_drewN (Below.refl _ _) _)) HFITD.out.1 HFITD.out.2.1).mono ?_; rintro e y26 ⟨rr, rfl, ho, hb⟩; have HEY : Hid (Below u24.heap.size u24 y26) := Lib.hid ⟨hb.os, hb.tape, hb.output, hb.size, hb.block⟩; have HOY := Lib.hid ho; obtain ⟨e0, e1⟩ := HQ.out y26 HEY.out; obtain ⟨e2, e3⟩ := HQ2.out y26 HEY.out; clear ho hb)
    | (go_at_call 30; refine (LawD.eqDevice _ _ _ ts xs (HD25_X.out.dev.below (by first | exact HEY.out | exact below_drewN HEY.out _)) HOY.out.dev).mono ?_; rintro e z26 ⟨rfl, hb⟩; have HEZ := Lib.hid (HEY.out.trans (hb.mono HEY.out.size)); obtain ⟨e4, e5⟩ := HQ.out z26 HEZ.out; obtain ⟨e6, e7⟩ := HQ2.out z26 HEZ.out; clear hb))
  have hb : Below u24.heap.size u24 z26 := HEZ.out
  clear e0 e1 e2 e3 e4 e5 e6 e7 HQ HQ2 HEY HEZ HOY
  obtain ⟨c27_GD0, c27_GD1⟩ := box_below hb c25_GD0 c25_GD1
  obtain ⟨c27_GW0, c27_GW1⟩ := box_below hb c25_GW0 c25_GW1
  obtain ⟨c27_GX0, c27_GX1⟩ := box_below hb c25_GX0 c25_GX1
  obtain ⟨c27_GG0, c27_GG1⟩ := box_below hb c25_GG0 c25_GG1
  have HD27_D := Lib.hid (HD25_D.out.below hb)
  have HD27_W := Lib.hid (HD25_W.out.below hb)
  have HD27_X := Lib.hid (HD25_X.out.below hb)
  have HD27_G := Lib.hid (HD25_G.out.below hb)
  have HN27_F := Lib.hid (HN25_F.out.below hb)
  have HN27_N := Lib.hid (HN25_N.out.below hb)
  have HB27 := Lib.hid (HB25.out.trans (hb.mono HB25.out.size))
  have HZ27 := Lib.hid hb.size
  clear hb c25_GD0 c25_GD1 c25_GW0 c25_GW1 c25_GX0 c25_GX1 c25_GG0 c25_GG1 HD25_D HD25_W HD25_X HD25_G HN25_F HN25_N HB25
  go_wp2_with fail
  refine (LawN.toIntS z26 _ fs HN27_F.out HFL.out).mono ?_
  rintro e u28 ⟨r28, rfl, ho, hb⟩
  have HLf2 := Lib.hid (lies_of ho (by omega))
  have HOf2 := Lib.hid ho
  clear ho
  obtain ⟨c29_GD0, c29_GD1⟩ := box_below hb c27_GD0 c27_GD1
  obtain ⟨c29_GW0, c29_GW1⟩ := box_below hb c27_GW0 c27_GW1
  obtain ⟨c29_GX0, c29_GX1⟩ := box_below hb c27_GX0 c27_GX1
  obtain ⟨c29_GG0, c29_GG1⟩ := box_below hb c27_GG0 c27_GG1
  have HD29_D := Lib.hid (HD27_D.out.below hb)
  have HD29_W := Lib.hid (HD27_W.out.below hb)
  have HD29_X := Lib.hid (HD27_X.out.below hb)
  have HD29_G := Lib.hid (HD27_G.out.below hb)
  have HN29_F := Lib.hid (HN27_F.out.below hb)
  have HN29_N := Lib.hid (HN27_N.out.below hb)
  have HB29 := Lib.hid (HB27.out.trans (hb.mono HB27.out.size))
  have HZ29 := Lib.hid hb.size
  clear hb c27_GD0 c27_GD1 c27_GW0 c27_GW1 c27_GX0 c27_GX1 c27_GG0 c27_GG1 HD27_D HD27_W HD27_X HD27_G HN27_F HN27_N HB27
  go_wp2_with fail
  refine (LawN.eqIntS u28 _ _ fs HN29_N.out.sl HOf2.out.sl).mono ?_
  rintro e u30 ⟨rfl, hb⟩
  obtain ⟨c31_GD0, c31_GD1⟩ := box_below hb c29_GD0 c29_GD1
  obtain ⟨c31_GW0, c31_GW1⟩ := box_below hb c29_GW0 c29_GW1
  obtain ⟨c31_GX0, c31_GX1⟩ := box_below hb c29_GX0 c29_GX1
  obtain ⟨c31_GG0, c31_GG1⟩ := box_below hb c29_GG0 c29_GG1
  have HD31_D := Lib.hid (HD29_D.out.below hb)
  have HD31_W := Lib.hid (HD29_W.out.below hb)
  have HD31_X := Lib.hid (HD29_X.out.below hb)
  have HD31_G := Lib.hid (HD29_G.out.below hb)
  have HN31_F := Lib.hid (HN29_F.out.below hb)
  have HN31_N := Lib.hid (HN29_N.out.below hb)
  have HN31_f2 := Lib.hid (HOf2.out.below hb)
  have HB31 := Lib.hid (HB29.out.trans (hb.mono HB29.out.size))
  have HZ31 := Lib.hid hb.size
  clear hb c29_GD0 c29_GD1 c29_GW0 c29_GW1 c29_GX0 c29_GX1 c29_GG0 c29_GG1 HD29_D HD29_W HD29_X HD29_G HN29_F HN29_N HOf2 HB29
  go_wp2_with fail
  obtain ⟨m1, m2, me, mo1, mo2, map_⟩ := HD31_X.out
  obtain ⟨rfl, rfl⟩ : (Value.slice a15 ts.length p15) = m1 ∧ (Value.slice b15 xs.length q15) = m2 := by simpa using me
  refine (LawD.markDevice u30 _ (.slice a15 ts.length p15) (.slice b15 xs.length q15) _ _ 1 _ _ mo1 mo2 map_ LENX.out).mono ?_
  rintro e u32 ⟨rfl, hw1, hw2, ht⟩
  obtain ⟨c32_GD0, c32_GD1⟩ := box_turns ht HLX.out (g := GD) (by have := HGD.out; have := HY1.out; have := HZ2.out; have := HZ4.out; have := HZ6.out; have := HZ8.out; have := HZ10.out; have := HGW.out; have := HY11.out; have := HZ12.out; have := HZ14.out; have := HGX.out; have := HY16.out; have := HZ17.out; have := HZ19.out; have := HZ21.out; have := HGG.out; have := HY22.out; have := HZ23.out; have := HZ25.out; have := HZ27.out; have := HZ29.out; have := HZ31.out; omega) c31_GD0 c31_GD1
  obtain ⟨c32_GW0, c32_GW1⟩ := box_turns ht HLX.out (g := GW) (by have := HGD.out; have := HY1.out; have := HZ2.out; have := HZ4.out; have := HZ6.out; have := HZ8.out; have := HZ10.out; have := HGW.out; have := HY11.out; have := HZ12.out; have := HZ14.out; have := HGX.out; have := HY16.out; have := HZ17.out; have := HZ19.out; have := HZ21.out; have := HGG.out; have := HY22.out; have := HZ23.out; have := HZ25.out; have := HZ27.out; have := HZ29.out; have := HZ31.out; omega) c31_GW0 c31_GW1
  obtain ⟨c32_GX0, c32_GX1⟩ := box_turns ht HLX.out (g := GX) (by have := HGD.out; have := HY1.out; have := HZ2.out; have := HZ4.out; have := HZ6.out; have := HZ8.out; have := HZ10.out; have := HGW.out; have := HY11.out; have := HZ12.out; have := HZ14.out; have := HGX.out; have := HY16.out; have := HZ17.out; have := HZ19.out; have := HZ21.out; have := HGG.out; have := HY22.out; have := HZ23.out; have := HZ25.out; have := HZ27.out; have := HZ29.out; have := HZ31.out; omega) c31_GX0 c31_GX1
  obtain ⟨c32_GG0, c32_GG1⟩ := box_turns ht HLX.out (g := GG) (by have := HGD.out; have := HY1.out; have := HZ2.out; have := HZ4.out; have := HZ6.out; have := HZ8.out; have := HZ10.out; have := HGW.out; have := HY11.out; have := HZ12.out; have := HZ14.out; have := HGX.out; have := HY16.out; have := HZ17.out; have := HZ19.out; have := HZ21.out; have := HGG.out; have := HY22.out; have := HZ23.out; have := HZ25.out; have := HZ27.out; have := HZ29.out; have := HZ31.out; omega) c31_GG0 c31_GG1
  have HD32_D := Lib.hid (dev_turns ht HLX.out HLD.out (by have := HGD.out; have := HY1.out; have := HZ2.out; have := HZ4.out; have := HZ6.out; have := HZ8.out; have := HZ10.out; have := HGW.out; have := HY11.out; have := HZ12.out; have := HZ14.out; have := HGX.out; have := HY16.out; have := HZ17.out; have := HZ19.out; have := HZ21.out; have := HGG.out; have := HY22.out; have := HZ23.out; have := HZ25.out; have := HZ27.out; have := HZ29.out; have := HZ31.out; omega) HD31_D.out)
  have HD32_W := Lib.hid (devO_turns ht HLX.out HLW.out (by have := HGD.out; have := HY1.out; have := HZ2.out; have := HZ4.out; have := HZ6.out; have := HZ8.out; have := HZ10.out; have := HGW.out; have := HY11.out; have := HZ12.out; have := HZ14.out; have := HGX.out; have := HY16.out; have := HZ17.out; have := HZ19.out; have := HZ21.out; have := HGG.out; have := HY22.out; have := HZ23.out; have := HZ25.out; have := HZ27.out; have := HZ29.out; have := HZ31.out; omega) HD31_W.out)
  have HD32_G := Lib.hid (devO_turns ht HLX.out HLG.out (by have := HGD.out; have := HY1.out; have := HZ2.out; have := HZ4.out; have := HZ6.out; have := HZ8.out; have := HZ10.out; have := HGW.out; have := HY11.out; have := HZ12.out; have := HZ14.out; have := HGX.out; have := HY16.out; have := HZ17.out; have := HZ19.out; have := HZ21.out; have := HGG.out; have := HY22.out; have := HZ23.out; have := HZ25.out; have := HZ27.out; have := HZ29.out; have := HZ31.out; omega) HD31_G.out)
  have HN32_F := Lib.hid (Ex2.sl_turn2 ht HLX.out HLF.out (by have := HGD.out; have := HY1.out; have := HZ2.out; have := HZ4.out; have := HZ6.out; have := HZ8.out; have := HZ10.out; have := HGW.out; have := HY11.out; have := HZ12.out; have := HZ14.out; have := HGX.out; have := HY16.out; have := HZ17.out; have := HZ19.out; have := HZ21.out; have := HGG.out; have := HY22.out; have := HZ23.out; have := HZ25.out; have := HZ27.out; have := HZ29.out; have := HZ31.out; omega) HN31_F.out)
  have HN32_N := Lib.hid (Ex2.own_turn2 ht HLX.out HLN.out (by have := HGD.out; have := HY1.out; have := HZ2.out; have := HZ4.out; have := HZ6.out; have := HZ8.out; have := HZ10.out; have := HGW.out; have := HY11.out; have := HZ12.out; have := HZ14.out; have := HGX.out; have := HY16.out; have := HZ17.out; have := HZ19.out; have := HZ21.out; have := HGG.out; have := HY22.out; have := HZ23.out; have := HZ25.out; have := HZ27.out; have := HZ29.out; have := HZ31.out; omega) HN31_N.out)
  have HB32 := Lib.hid (HB31.out.trans (below_turns ht HLX.out (by have := HGD.out; have := HY1.out; have := HZ2.out; have := HZ4.out; have := HZ6.out; have := HZ8.out; have := HZ10.out; have := HGW.out; have := HY11.out; have := HZ12.out; have := HZ14.out; have := HGX.out; have := HY16.out; have := HZ17.out; have := HZ19.out; have := HZ21.out; have := HGG.out; have := HY22.out; have := HZ23.out; have := HZ25.out; have := HZ27.out; have := HZ29.out; have := HZ31.out; omega) (by have := HGD.out; have := HY1.out; have := HZ2.out; have := HZ4.out; have := HZ6.out; have := HZ8.out; have := HZ10.out; have := HGW.out; have := HY11.out; have := HZ12.out; have := HZ14.out; have := HGX.out; have := HY16.out; have := HZ17.out; have := HZ19.out; have := HZ21.out; have := HGG.out; have := HY22.out; have := HZ23.out; have := HZ25.out; have := HZ27.out; have := HZ29.out; have := HZ31.out; omega)))
  have HZ32 := Lib.hid ht.size
  have HW32a := Lib.hid hw1.sl
  have HW32b := Lib.hid hw2.sl
  obtain ⟨KX, eKX⟩ : ∃ KX, 1 + ts.length + xs.length * 2 = KX := ⟨_, rfl⟩
  rw [eKX]
  have EKX := Lib.hid eKX
  have dKX : decide ((KX : Int) < 0) = false := decide_eq_false (by omega)
  clear ht hw1 hw2 mo1 mo2 map_ me eKX c31_GD0 c31_GD1 c31_GW0 c31_GW1 c31_GX0 c31_GX1 c31_GG0 c31_GG1 HD31_D HD31_W HD31_G HN31_F HN31_N HB31 HD31_X
  go_wp2_with fail
  refine (LawN.markIntS u32 _ _ _ _ HN32_N.out KX (by rw [← EKX.out]; exact LENF.out)).mono ?_
  rintro e u33 ⟨rfl, _, ht⟩
  obtain ⟨c33_GD0, c33_GD1⟩ := Ex2.box_turn1 ht HLN.out (g := GD) (by have := HGD.out; have := HY1.out; have := HZ2.out; have := HZ4.out; have := HZ6.out; have := HZ8.out; have := HZ10.out; have := HGW.out; have := HY11.out; have := HZ12.out; have := HZ14.out; have := HGX.out; have := HY16.out; have := HZ17.out; have := HZ19.out; have := HZ21.out; have := HGG.out; have := HY22.out; have := HZ23.out; have := HZ25.out; have := HZ27.out; have := HZ29.out; have := HZ31.out; have := HZ32.out; omega) c32_GD0 c32_GD1
  obtain ⟨c33_GW0, c33_GW1⟩ := Ex2.box_turn1 ht HLN.out (g := GW) (by have := HGD.out; have := HY1.out; have := HZ2.out; have := HZ4.out; have := HZ6.out; have := HZ8.out; have := HZ10.out; have := HGW.out; have := HY11.out; have := HZ12.out; have := HZ14.out; have := HGX.out; have := HY16.out; have := HZ17.out; have := HZ19.out; have := HZ21.out; have := HGG.out; have := HY22.out; have := HZ23.out; have := HZ25.out; have := HZ27.out; have := HZ29.out; have := HZ31.out; have := HZ32.out; omega) c32_GW0 c32_GW1
  obtain ⟨c33_GX0, c33_GX1⟩ := Ex2.box_turn1 ht HLN.out (g := GX) (by have := HGD.out; have := HY1.out; have := HZ2.out; have := HZ4.out; have := HZ6.out; have := HZ8.out; have := HZ10.out; have := HGW.out; have := HY11.out; have := HZ12.out; have := HZ14.out; have := HGX.out; have := HY16.out; have := HZ17.out; have := HZ19.out; have := HZ21.out; have := HGG.out; have := HY22.out; have := HZ23.out; have := HZ25.out; have := HZ27.out; have := HZ29.out; have := HZ31.out; have := HZ32.out; omega) c32_GX0 c32_GX1
  obtain ⟨c33_GG0, c33_GG1⟩ := Ex2.box_turn1 ht HLN.out (g := GG) (by have := HGD.out; have := HY1.out; have := HZ2.out; have := HZ4.out; have := HZ6.out; have := HZ8.out; have := HZ10.out; have := HGW.out; have := HY11.out; have := HZ12.out; have := HZ14.out; have := HGX.out; have := HY16.out; have := HZ17.out; have := HZ19.out; have := HZ21.out; have := HGG.out; have := HY22.out; have := HZ23.out; have := HZ25.out; have := HZ27.out; have := HZ29.out; have := HZ31.out; have := HZ32.out; omega) c32_GG0 c32_GG1
  have HD33_D := Lib.hid (Ex2.dev_turn1 ht HLN.out HLD.out (by have := HGD.out; have := HY1.out; have := HZ2.out; have := HZ4.out; have := HZ6.out; have := HZ8.out; have := HZ10.out; have := HGW.out; have := HY11.out; have := HZ12.out; have := HZ14.out; have := HGX.out; have := HY16.out; have := HZ17.out; have := HZ19.out; have := HZ21.out; have := HGG.out; have := HY22.out; have := HZ23.out; have := HZ25.out; have := HZ27.out; have := HZ29.out; have := HZ31.out; have := HZ32.out; omega) HD32_D.out)
  have HD33_W := Lib.hid (Ex2.devO_turn1 ht HLN.out HLW.out (by have := HGD.out; have := HY1.out; have := HZ2.out; have := HZ4.out; have := HZ6.out; have := HZ8.out; have := HZ10.out; have := HGW.out; have := HY11.out; have := HZ12.out; have := HZ14.out; have := HGX.out; have := HY16.out; have := HZ17.out; have := HZ19.out; have := HZ21.out; have := HGG.out; have := HY22.out; have := HZ23.out; have := HZ25.out; have := HZ27.out; have := HZ29.out; have := HZ31.out; have := HZ32.out; omega) HD32_W.out)
  have HD33_G := Lib.hid (Ex2.devO_turn1 ht HLN.out HLG.out (by have := HGD.out; have := HY1.out; have := HZ2.out; have := HZ4.out; have := HZ6.out; have := HZ8.out; have := HZ10.out; have := HGW.out; have := HY11.out; have := HZ12.out; have := HZ14.out; have := HGX.out; have := HY16.out; have := HZ17.out; have := HZ19.out; have := HZ21.out; have := HGG.out; have := HY22.out; have := HZ23.out; have := HZ25.out; have := HZ27.out; have := HZ29.out; have := HZ31.out; have := HZ32.out; omega) HD32_G.out)
  have HN33_F := Lib.hid (Ex2.sl_turn1 ht HLN.out HLF.out (by have := HGD.out; have := HY1.out; have := HZ2.out; have := HZ4.out; have := HZ6.out; have := HZ8.out; have := HZ10.out; have := HGW.out; have := HY11.out; have := HZ12.out; have := HZ14.out; have := HGX.out; have := HY16.out; have := HZ17.out; have := HZ19.out; have := HZ21.out; have := HGG.out; have := HY22.out; have := HZ23.out; have := HZ25.out; have := HZ27.out; have := HZ29.out; have := HZ31.out; have := HZ32.out; omega) HN32_F.out)
  have HB33 := Lib.hid (HB32.out.trans (Ex2.below_turn1 ht HLN.out (by have := HGD.out; have := HY1.out; have := HZ2.out; have := HZ4.out; have := HZ6.out; have := HZ8.out; have := HZ10.out; have := HGW.out; have := HY11.out; have := HZ12.out; have := HZ14.out; have := HGX.out; have := HY16.out; have := HZ17.out; have := HZ19.out; have := HZ21.out; have := HGG.out; have := HY22.out; have := HZ23.out; have := HZ25.out; have := HZ27.out; have := HZ29.out; have := HZ31.out; have := HZ32.out; omega) (by have := HGD.out; have := HY1.out; have := HZ2.out; have := HZ4.out; have := HZ6.out; have := HZ8.out; have := HZ10.out; have := HGW.out; have := HY11.out; have := HZ12.out; have := HZ14.out; have := HGX.out; have := HY16.out; have := HZ17.out; have := HZ19.out; have := HZ21.out; have := HGG.out; have := HY22.out; have := HZ23.out; have := HZ25.out; have := HZ27.out; have := HZ29.out; have := HZ31.out; have := HZ32.out; omega)))
  have HZ33 := Lib.hid ht.size
  obtain ⟨KN, eKN⟩ : ∃ KN, KX + fs.length = KN := ⟨_, rfl⟩
  rw [eKN]
  have dKN : decide ((KN : Int) < 0) = false := decide_eq_false (by omega)
  clear ht eKN c32_GD0 c32_GD1 c32_GW0 c32_GW1 c32_GX0 c32_GX1 c32_GG0 c32_GG1 HD32_D HD32_W HD32_G HN32_F HB32 HN32_N
  go_wp2_with fail
  refine (LawD.eqDevice u33 _ _ tr xr HD33_G.out.dev HD33_W.out.dev).mono ?_
  rintro e u34 ⟨rfl, hb⟩
  obtain ⟨c35_GD0, c35_GD1⟩ := box_below hb c33_GD0 c33_GD1
  obtain ⟨c35_GW0, c35_GW1⟩ := box_below hb c33_GW0 c33_GW1
  obtain ⟨c35_GX0, c35_GX1⟩ := box_below hb c33_GX0 c33_GX1
  obtain ⟨c35_GG0, c35_GG1⟩ := box_below hb c33_GG0 c33_GG1
  have HD35_D := Lib.hid (HD33_D.out.below hb)
  have HD35_W := Lib.hid (HD33_W.out.below hb)
  have HD35_G := Lib.hid (HD33_G.out.below hb)
  have HN35_F := Lib.hid (HN33_F.out.below hb)
  have HB35 := Lib.hid (HB33.out.trans (hb.mono HB33.out.size))
  have HZ35 := Lib.hid hb.size
  clear hb c33_GD0 c33_GD1 c33_GW0 c33_GW1 c33_GX0 c33_GX1 c33_GG0 c33_GG1 HD33_D HD33_W HD33_G HN33_F HB33
  go_wp2_with fail
  obtain ⟨m1, m2, me, mo1, mo2, map_⟩ := HD35_G.out
  obtain ⟨rfl, rfl⟩ : (Value.slice aG tr.length pG) = m1 ∧ (Value.slice bG xr.length qG) = m2 := by simpa using me
  refine (LawD.markDevice u34 _ (.slice aG tr.length pG) (.slice bG xr.length qG) _ _ 1 _ _ mo1 mo2 map_ LENG.out).mono ?_
  rintro e u36 ⟨rfl, hw1, hw2, ht⟩
  obtain ⟨c36_GD0, c36_GD1⟩ := box_turns ht HLG.out (g := GD) (by have := HGD.out; have := HY1.out; have := HZ2.out; have := HZ4.out; have := HZ6.out; have := HZ8.out; have := HZ10.out; have := HGW.out; have := HY11.out; have := HZ12.out; have := HZ14.out; have := HGX.out; have := HY16.out; have := HZ17.out; have := HZ19.out; have := HZ21.out; have := HGG.out; have := HY22.out; have := HZ23.out; have := HZ25.out; have := HZ27.out; have := HZ29.out; have := HZ31.out; have := HZ32.out; have := HZ33.out; have := HZ35.out; omega) c35_GD0 c35_GD1
  obtain ⟨c36_GW0, c36_GW1⟩ := box_turns ht HLG.out (g := GW) (by have := HGD.out; have := HY1.out; have := HZ2.out; have := HZ4.out; have := HZ6.out; have := HZ8.out; have := HZ10.out; have := HGW.out; have := HY11.out; have := HZ12.out; have := HZ14.out; have := HGX.out; have := HY16.out; have := HZ17.out; have := HZ19.out; have := HZ21.out; have := HGG.out; have := HY22.out; have := HZ23.out; have := HZ25.out; have := HZ27.out; have := HZ29.out; have := HZ31.out; have := HZ32.out; have := HZ33.out; have := HZ35.out; omega) c35_GW0 c35_GW1
  obtain ⟨c36_GX0, c36_GX1⟩ := box_turns ht HLG.out (g := GX) (by have := HGD.out; have := HY1.out; have := HZ2.out; have := HZ4.out; have := HZ6.out; have := HZ8.out; have := HZ10.out; have := HGW.out; have := HY11.out; have := HZ12.out; have := HZ14.out; have := HGX.out; have := HY16.out; have := HZ17.out; have := HZ19.out; have := HZ21.out; have := HGG.out; have := HY22.out; have := HZ23.out; have := HZ25.out; have := HZ27.out; have := HZ29.out; have := HZ31.out; have := HZ32.out; have := HZ33.out; have := HZ35.out; omega) c35_GX0 c35_GX1
  obtain ⟨c36_GG0, c36_GG1⟩ := box_turns ht HLG.out (g := GG) (by have := HGD.out; have := HY1.out; have := HZ2.out; have := HZ4.out; have := HZ6.out; have := HZ8.out; have := HZ10.out; have := HGW.out; have := HY11.out; have := HZ12.out; have := HZ14.out; have := HGX.out; have := HY16.out; have := HZ17.out; have := HZ19.out; have := HZ21.out; have := HGG.out; have := HY22.out; have := HZ23.out; have := HZ25.out; have := HZ27.out; have := HZ29.out; have := HZ31.out; have := HZ32.out; have := HZ33.out; have := HZ35.out; omega) c35_GG0 c35_GG1
  have HD36_D := Lib.hid (dev_turns ht HLG.out HLD.out (by have := HGD.out; have := HY1.out; have := HZ2.out; have := HZ4.out; have := HZ6.out; have := HZ8.out; have := HZ10.out; have := HGW.out; have := HY11.out; have := HZ12.out; have := HZ14.out; have := HGX.out; have := HY16.out; have := HZ17.out; have := HZ19.out; have := HZ21.out; have := HGG.out; have := HY22.out; have := HZ23.out; have := HZ25.out; have := HZ27.out; have := HZ29.out; have := HZ31.out; have := HZ32.out; have := HZ33.out; have := HZ35.out; omega) HD35_D.out)
  have HD36_W := Lib.hid (devO_turns ht HLG.out HLW.out (by have := HGD.out; have := HY1.out; have := HZ2.out; have := HZ4.out; have := HZ6.out; have := HZ8.out; have := HZ10.out; have := HGW.out; have := HY11.out; have := HZ12.out; have := HZ14.out; have := HGX.out; have := HY16.out; have := HZ17.out; have := HZ19.out; have := HZ21.out; have := HGG.out; have := HY22.out; have := HZ23.out; have := HZ25.out; have := HZ27.out; have := HZ29.out; have := HZ31.out; have := HZ32.out; have := HZ33.out; have := HZ35.out; omega) HD35_W.out)
  have HN36_F := Lib.hid (Ex2.sl_turn2 ht HLG.out HLF.out (by have := HGD.out; have := HY1.out; have := HZ2.out; have := HZ4.out; have := HZ6.out; have := HZ8.out; have := HZ10.out; have := HGW.out; have := HY11.out; have := HZ12.out; have := HZ14.out; have := HGX.out; have := HY16.out; have := HZ17.out; have := HZ19.out; have := HZ21.out; have := HGG.out; have := HY22.out; have := HZ23.out; have := HZ25.out; have := HZ27.out; have := HZ29.out; have := HZ31.out; have := HZ32.out; have := HZ33.out; have := HZ35.out; omega) HN35_F.out)
  have HB36 := Lib.hid (HB35.out.trans (below_turns ht HLG.out (by have := HGD.out; have := HY1.out; have := HZ2.out; have := HZ4.out; have := HZ6.out; have := HZ8.out; have := HZ10.out; have := HGW.out; have := HY11.out; have := HZ12.out; have := HZ14.out; have := HGX.out; have := HY16.out; have := HZ17.out; have := HZ19.out; have := HZ21.out; have := HGG.out; have := HY22.out; have := HZ23.out; have := HZ25.out; have := HZ27.out; have := HZ29.out; have := HZ31.out; have := HZ32.out; have := HZ33.out; have := HZ35.out; omega) (by have := HGD.out; have := HY1.out; have := HZ2.out; have := HZ4.out; have := HZ6.out; have := HZ8.out; have := HZ10.out; have := HGW.out; have := HY11.out; have := HZ12.out; have := HZ14.out; have := HGX.out; have := HY16.out; have := HZ17.out; have := HZ19.out; have := HZ21.out; have := HGG.out; have := HY22.out; have := HZ23.out; have := HZ25.out; have := HZ27.out; have := HZ29.out; have := HZ31.out; have := HZ32.out; have := HZ33.out; have := HZ35.out; omega)))
  have HZ36 := Lib.hid ht.size
  have HW36a := Lib.hid hw1.sl
  have HW36b := Lib.hid hw2.sl
  obtain ⟨KG, eKG⟩ : ∃ KG, 1 + tr.length + xr.length * 2 = KG := ⟨_, rfl⟩
  rw [eKG]
  have EKG := Lib.hid eKG
  have dKG : decide ((KG : Int) < 0) = false := decide_eq_false (by omega)
  clear ht hw1 hw2 mo1 mo2 map_ me eKG c35_GD0 c35_GD1 c35_GW0 c35_GW1 c35_GX0 c35_GX1 c35_GG0 c35_GG1 HD35_D HD35_W HN35_F HB35 HD35_G
  go_wp2_with fail
  refine (LawD.heldDevice u36 (.slice aG tr.length pG) (.slice bG xr.length qG) tr.length xr.length 1 HW36a.out HW36b.out LENG.out).mono ?_
  rintro e u37 ⟨rfl, hb⟩
  rw [EKG.out]
  obtain ⟨c38_GD0, c38_GD1⟩ := box_below hb c36_GD0 c36_GD1
  obtain ⟨c38_GW0, c38_GW1⟩ := box_below hb c36_GW0 c36_GW1
  obtain ⟨c38_GX0, c38_GX1⟩ := box_below hb c36_GX0 c36_GX1
  obtain ⟨c38_GG0, c38_GG1⟩ := box_below hb c36_GG0 c36_GG1
  have HD38_D := Lib.hid (HD36_D.out.below hb)
  have HD38_W := Lib.hid (HD36_W.out.below hb)
  have HW38_a := Lib.hid (HW36a.out.below hb)
  have HW38_b := Lib.hid (HW36b.out.below hb)
  have HN38_F := Lib.hid (HN36_F.out.below hb)
  have HB38 := Lib.hid (HB36.out.trans (hb.mono HB36.out.size))
  have HZ38 := Lib.hid hb.size
  clear hb c36_GD0 c36_GD1 c36_GW0 c36_GW1 c36_GX0 c36_GX1 c36_GG0 c36_GG1 HD36_D HD36_W HW36a HW36b HN36_F HB36
  go_wp2_with fail
  refine (LawD.toDevice u37 _ ts xs HD38_D.out HFITD.out.1 HFITD.out.2.1).mono ?_
  rintro e u39 ⟨r39, rfl, ho, hb⟩
  have HLc2 := Lib.hid (liesD ho)
  have HOc2 := Lib.hid ho
  clear ho
  obtain ⟨c40_GD0, c40_GD1⟩ := box_below hb c38_GD0 c38_GD1
  obtain ⟨c40_GW0, c40_GW1⟩ := box_below hb c38_GW0 c38_GW1
  obtain ⟨c40_GX0, c40_GX1⟩ := box_below hb c38_GX0 c38_GX1
  obtain ⟨c40_GG0, c40_GG1⟩ := box_below hb c38_GG0 c38_GG1
  have HD40_D := Lib.hid (HD38_D.out.below hb)
  have HD40_W := Lib.hid (HD38_W.out.below hb)
  have HW40_a := Lib.hid (HW38_a.out.below hb)
  have HW40_b := Lib.hid (HW38_b.out.below hb)
  have HN40_F := Lib.hid (HN38_F.out.below hb)
  have HB40 := Lib.hid (HB38.out.trans (hb.mono HB38.out.size))
  have HZ40 := Lib.hid hb.size
  clear hb c38_GD0 c38_GD1 c38_GW0 c38_GW1 c38_GX0 c38_GX1 c38_GG0 c38_GG1 HD38_D HD38_W HW38_a HW38_b HN38_F HB38
  go_wp2_with fail
  refine (LawN.toIntS u39 _ fs HN40_F.out HFL.out).mono ?_
  rintro e u41 ⟨r41, rfl, ho, hb⟩
  have HLf3 := Lib.hid (lies_of ho (by omega))
  have HOf3 := Lib.hid ho
  clear ho
  obtain ⟨c42_GD0, c42_GD1⟩ := box_below hb c40_GD0 c40_GD1
  obtain ⟨c42_GW0, c42_GW1⟩ := box_below hb c40_GW0 c40_GW1
  obtain ⟨c42_GX0, c42_GX1⟩ := box_below hb c40_GX0 c40_GX1
  obtain ⟨c42_GG0, c42_GG1⟩ := box_below hb c40_GG0 c40_GG1
  have HD42_D := Lib.hid (HD40_D.out.below hb)
  have HD42_W := Lib.hid (HD40_W.out.below hb)
  have HD42_c2 := Lib.hid (HOc2.out.below hb)
  have HW42_a := Lib.hid (HW40_a.out.below hb)
  have HW42_b := Lib.hid (HW40_b.out.below hb)
  have HN42_F := Lib.hid (HN40_F.out.below hb)
  have HB42 := Lib.hid (HB40.out.trans (hb.mono HB40.out.size))
  have HZ42 := Lib.hid hb.size
  clear hb c40_GD0 c40_GD1 c40_GW0 c40_GW1 c40_GX0 c40_GX1 c40_GG0 c40_GG1 HD40_D HD40_W HOc2 HW40_a HW40_b HN40_F HB40
  go_wp2_with fail
  refine (Crashes.impl u41 _ _ ts xs fs HD42_c2.out.dev HOf3.out.sl HFL.out).mono ?_
  rw [ECD.out, ETR.out, EXR.out]
  rintro e u43 ⟨r43, rfl, ho, hb⟩
  have HLH := Lib.hid (liesD ho)
  have HOH := Lib.hid ho
  obtain ⟨aH, pH, bH, qH, rfl⟩ := form ho.dev
  clear ho
  obtain ⟨c44_GD0, c44_GD1⟩ := box_below hb c42_GD0 c42_GD1
  obtain ⟨c44_GW0, c44_GW1⟩ := box_below hb c42_GW0 c42_GW1
  obtain ⟨c44_GX0, c44_GX1⟩ := box_below hb c42_GX0 c42_GX1
  obtain ⟨c44_GG0, c44_GG1⟩ := box_below hb c42_GG0 c42_GG1
  have HD44_D := Lib.hid (HD42_D.out.below hb)
  have HD44_W := Lib.hid (HD42_W.out.below hb)
  have HD44_c2 := Lib.hid (HD42_c2.out.below hb)
  have HW44_a := Lib.hid (HW42_a.out.below hb)
  have HW44_b := Lib.hid (HW42_b.out.below hb)
  have HN44_F := Lib.hid (HN42_F.out.below hb)
  have HN44_f3 := Lib.hid (HOf3.out.below hb)
  have HB44 := Lib.hid (HB42.out.trans (hb.mono HB42.out.size))
  have HZ44 := Lib.hid hb.size
  clear hb c42_GD0 c42_GD1 c42_GW0 c42_GW1 c42_GX0 c42_GX1 c42_GG0 c42_GG1 HD42_D HD42_W HD42_c2 HW42_a HW42_b HN42_F HOf3 HB42
  obtain ⟨U45, eU45, hb, hz, n450, n451⟩ := boxU u43 26 (.slice aH tr.length pH) (.slice bH xr.length qH)
  obtain ⟨GH, eGH⟩ : ∃ GH, u43.heap.size = GH := ⟨_, rfl⟩
  have HGH := Lib.hid eGH
  have HY45 := Lib.hid hz
  rw [eGH] at n450 n451
  clear hz
  obtain ⟨c46_GD0, c46_GD1⟩ := box_below hb c44_GD0 c44_GD1
  obtain ⟨c46_GW0, c46_GW1⟩ := box_below hb c44_GW0 c44_GW1
  obtain ⟨c46_GX0, c46_GX1⟩ := box_below hb c44_GX0 c44_GX1
  obtain ⟨c46_GG0, c46_GG1⟩ := box_below hb c44_GG0 c44_GG1
  have HD46_D := Lib.hid (HD44_D.out.below hb)
  have HD46_W := Lib.hid (HD44_W.out.below hb)
  have HD46_c2 := Lib.hid (HD44_c2.out.below hb)
  have HD46_H := Lib.hid (HOH.out.below hb)
  have HW46_a := Lib.hid (HW44_a.out.below hb)
  have HW46_b := Lib.hid (HW44_b.out.below hb)
  have HN46_F := Lib.hid (HN44_F.out.below hb)
  have HN46_f3 := Lib.hid (HN44_f3.out.below hb)
  have HB46 := Lib.hid (HB44.out.trans (hb.mono HB44.out.size))
  have HZ46 := Lib.hid hb.size
  clear hb c44_GD0 c44_GD1 c44_GW0 c44_GW1 c44_GX0 c44_GX1 c44_GG0 c44_GG1 HD44_D HD44_W HD44_c2 HOH HW44_a HW44_b HN44_F HN44_f3 HB44
  go_wp2_with fail
  clear eU45 eGH
  refine (LawD.eqDevice U45 _ _ tr xr HD46_H.out.dev HD46_W.out.dev).mono ?_
  rintro e u47 ⟨rfl, hb⟩
  obtain ⟨c48_GD0, c48_GD1⟩ := box_below hb c46_GD0 c46_GD1
  obtain ⟨c48_GW0, c48_GW1⟩ := box_below hb c46_GW0 c46_GW1
  obtain ⟨c48_GX0, c48_GX1⟩ := box_below hb c46_GX0 c46_GX1
  obtain ⟨c48_GG0, c48_GG1⟩ := box_below hb c46_GG0 c46_GG1
  obtain ⟨c48_GH0, c48_GH1⟩ := box_below hb n450 n451
  have HD48_D := Lib.hid (HD46_D.out.below hb)
  have HD48_W := Lib.hid (HD46_W.out.below hb)
  have HD48_H := Lib.hid (HD46_H.out.below hb)
  have HW48_a := Lib.hid (HW46_a.out.below hb)
  have HW48_b := Lib.hid (HW46_b.out.below hb)
  have HN48_F := Lib.hid (HN46_F.out.below hb)
  have HB48 := Lib.hid (HB46.out.trans (hb.mono HB46.out.size))
  have HZ48 := Lib.hid hb.size
  clear hb c46_GD0 c46_GD1 c46_GW0 c46_GW1 c46_GX0 c46_GX1 c46_GG0 c46_GG1 n450 n451 HD46_D HD46_W HD46_H HW46_a HW46_b HN46_F HB46
  go_wp2_with fail
  refine (LawD.heldDevice u47 (.slice aG tr.length pG) (.slice bG xr.length qG) tr.length xr.length 1 HW48_a.out HW48_b.out LENG.out).mono ?_
  rintro e u49 ⟨rfl, hb⟩
  rw [EKG.out]
  obtain ⟨c50_GD0, c50_GD1⟩ := box_below hb c48_GD0 c48_GD1
  obtain ⟨c50_GW0, c50_GW1⟩ := box_below hb c48_GW0 c48_GW1
  obtain ⟨c50_GX0, c50_GX1⟩ := box_below hb c48_GX0 c48_GX1
  obtain ⟨c50_GG0, c50_GG1⟩ := box_below hb c48_GG0 c48_GG1
  obtain ⟨c50_GH0, c50_GH1⟩ := box_below hb c48_GH0 c48_GH1
  have HD50_D := Lib.hid (HD48_D.out.below hb)
  have HD50_W := Lib.hid (HD48_W.out.below hb)
  have HD50_H := Lib.hid (HD48_H.out.below hb)
  have HW50_a := Lib.hid (HW48_a.out.below hb)
  have HW50_b := Lib.hid (HW48_b.out.below hb)
  have HN50_F := Lib.hid (HN48_F.out.below hb)
  have HB50 := Lib.hid (HB48.out.trans (hb.mono HB48.out.size))
  have HZ50 := Lib.hid hb.size
  clear hb c48_GD0 c48_GD1 c48_GW0 c48_GW1 c48_GX0 c48_GX1 c48_GG0 c48_GG1 c48_GH0 c48_GH1 HD48_D HD48_W HD48_H HW48_a HW48_b HN48_F HB48
  go_wp2_with fail
  go_ret
  exact ⟨rfl, HB50.out⟩
theorem cellsI : Try.prog.cellsOf 3 = 1 := by kernel_rfl
theorem walk_any {H : Type} {enc : TypeId × Value → H} {W : World} {base b0 base' b0' : Nat} {spare spare' : Nat → Bool} {held held' : Bool} {v u : Value} {d d' : DataW H} {p p' : List MemPlace}
    (o : Value.okWide Try.prog W .any b0 48 v) (h : DataW.Trod enc Try.prog W base spare held 48 v d p)
    (o' : Value.okWide Try.prog W .any b0' 36 u) (h' : DataW.Trod enc Try.prog W base' spare' held' 36 u d' p') :
    Calls Try.prog 10 #[v, u] W fun e w' => e = .returned (.bool true) ∧ Below W.heap.size W w' := by
  obtain ⟨ts, xs, hd, hs, hx⟩ := open_dev o h
  obtain ⟨a, l, c, rfl⟩ := okWide_slice Try.underlying36 o'
  obtain ⟨fuel, hf⟩ := h'
  obtain ⟨fs, hfs, _⟩ := OpenSl.numbers Try.underlying36 Try.underlying3 cellsI hf
  exact walk W v _ ts xs fs hd hs hx hfs
end Go.Proofs.Ytmgokpkogjdfhaa.ExCrashWith
