/-
  What is proved: the exact law on NewDevice returns true (the walk).
-/
import Derived.Test.YtmgokpkogjdfhaaRows
import Derived.Test.YtmgokpkogjdfhaaEx
import Derived.Test.YtmgokpkogjdfhaaNews
namespace Go.Proofs.Ytmgokpkogjdfhaa.ExNewDevice
open Go.ChangeShapes Go.WideShapes Go.ChangeAt Go.RowKit
open Sl (Sl Own Off)
open OpenSl (tc nc pc)
open Dev Ex
open LawD (Fits)
set_option linter.unusedVariables false

set_option maxRecDepth 100000 in
set_option maxHeartbeats 3200000 in
theorem walk (w : World) : Calls Try.prog 5 #[] w fun e w' => e = .returned (.bool true) ∧ Below w.heap.size w w' := by
  have HB0 := Lib.hid (Below.refl w.heap.size w)
  obtain ⟨tr, etr⟩ : ∃ tr, News.zr = tr := ⟨_, rfl⟩
  have ETR := Lib.hid etr
  have htr : tr.length = 40 := by rw [← etr]; exact News.zr_len
  have HTR := Lib.hid htr
  clear etr htr
  obtain ⟨xr, exr⟩ : ∃ xr, ([] : List (Int × ByteArray)) = xr := ⟨_, rfl⟩
  have EXR := Lib.hid exr
  clear exr
  have LENG : Hid (1 + tr.length + xr.length * 2 ≤ 10000000) := Lib.hid (by rw [← EXR.out]; have := HTR.out; simp; omega)
  go_enter Try.func5, Try.ntmps5
  go_wp2_with fail
  refine (News.spec w).mono ?_
  rw [ETR.out, EXR.out]
  rintro e u1 ⟨r1, rfl, ho, hb⟩
  have HLW := Lib.hid (liesD ho)
  have HOW := Lib.hid ho
  obtain ⟨aW, pW, bW, qW, rfl⟩ := form ho.dev
  clear ho
  have HB2 := Lib.hid (HB0.out.trans (hb.mono HB0.out.size))
  have HZ2 := Lib.hid hb.size
  clear hb HB0
  obtain ⟨U3, eU3, hb, hz, n30, n31⟩ := boxU u1 26 (.slice aW tr.length pW) (.slice bW xr.length qW)
  obtain ⟨GW, eGW⟩ : ∃ GW, u1.heap.size = GW := ⟨_, rfl⟩
  have HGW := Lib.hid eGW
  have HY3 := Lib.hid hz
  rw [eGW] at n30 n31
  clear hz
  have HD4_W := Lib.hid (HOW.out.below hb)
  have HB4 := Lib.hid (HB2.out.trans (hb.mono HB2.out.size))
  have HZ4 := Lib.hid hb.size
  clear hb HOW HB2
  go_wp2_with fail
  clear eU3 eGW
  refine (News.impl U3).mono ?_
  rw [ETR.out, EXR.out]
  rintro e u5 ⟨r5, rfl, ho, hb⟩
  have HLG := Lib.hid (liesD ho)
  have HOG := Lib.hid ho
  obtain ⟨aG, pG, bG, qG, rfl⟩ := form ho.dev
  clear ho
  obtain ⟨c6_GW0, c6_GW1⟩ := box_below hb n30 n31
  have HD6_W := Lib.hid (HD4_W.out.below hb)
  have HB6 := Lib.hid (HB4.out.trans (hb.mono HB4.out.size))
  have HZ6 := Lib.hid hb.size
  clear hb n30 n31 HD4_W HB4
  obtain ⟨U7, eU7, hb, hz, n70, n71⟩ := boxU u5 26 (.slice aG tr.length pG) (.slice bG xr.length qG)
  obtain ⟨GG, eGG⟩ : ∃ GG, u5.heap.size = GG := ⟨_, rfl⟩
  have HGG := Lib.hid eGG
  have HY7 := Lib.hid hz
  rw [eGG] at n70 n71
  clear hz
  obtain ⟨c8_GW0, c8_GW1⟩ := box_below hb c6_GW0 c6_GW1
  have HD8_W := Lib.hid (HD6_W.out.below hb)
  have HD8_G := Lib.hid (HOG.out.below hb)
  have HB8 := Lib.hid (HB6.out.trans (hb.mono HB6.out.size))
  have HZ8 := Lib.hid hb.size
  clear hb c6_GW0 c6_GW1 HD6_W HOG HB6
  go_wp2_with fail
  clear eU7 eGG
  refine (LawD.eqDevice U7 _ _ tr xr HD8_G.out.dev HD8_W.out.dev).mono ?_
  rintro e u9 ⟨rfl, hb⟩
  obtain ⟨c10_GW0, c10_GW1⟩ := box_below hb c8_GW0 c8_GW1
  obtain ⟨c10_GG0, c10_GG1⟩ := box_below hb n70 n71
  have HD10_W := Lib.hid (HD8_W.out.below hb)
  have HD10_G := Lib.hid (HD8_G.out.below hb)
  have HB10 := Lib.hid (HB8.out.trans (hb.mono HB8.out.size))
  have HZ10 := Lib.hid hb.size
  clear hb c8_GW0 c8_GW1 n70 n71 HD8_W HD8_G HB8
  go_wp2_with fail
  obtain ⟨m1, m2, me, mo1, mo2, map_⟩ := HD10_G.out
  obtain ⟨rfl, rfl⟩ : (Value.slice aG tr.length pG) = m1 ∧ (Value.slice bG xr.length qG) = m2 := by simpa using me
  refine (LawD.markDevice u9 _ (.slice aG tr.length pG) (.slice bG xr.length qG) _ _ 1 _ _ mo1 mo2 map_ LENG.out).mono ?_
  rintro e u11 ⟨rfl, hw1, hw2, ht⟩
  obtain ⟨c11_GW0, c11_GW1⟩ := box_turns ht HLG.out (g := GW) (by have := HZ2.out; have := HGW.out; have := HY3.out; have := HZ4.out; have := HZ6.out; have := HGG.out; have := HY7.out; have := HZ8.out; have := HZ10.out; omega) c10_GW0 c10_GW1
  obtain ⟨c11_GG0, c11_GG1⟩ := box_turns ht HLG.out (g := GG) (by have := HZ2.out; have := HGW.out; have := HY3.out; have := HZ4.out; have := HZ6.out; have := HGG.out; have := HY7.out; have := HZ8.out; have := HZ10.out; omega) c10_GG0 c10_GG1
  have HD11_W := Lib.hid (devO_turns ht HLG.out HLW.out (by have := HZ2.out; have := HGW.out; have := HY3.out; have := HZ4.out; have := HZ6.out; have := HGG.out; have := HY7.out; have := HZ8.out; have := HZ10.out; omega) HD10_W.out)
  have HB11 := Lib.hid (HB10.out.trans (below_turns ht HLG.out (by have := HZ2.out; have := HGW.out; have := HY3.out; have := HZ4.out; have := HZ6.out; have := HGG.out; have := HY7.out; have := HZ8.out; have := HZ10.out; omega) (by have := HZ2.out; have := HGW.out; have := HY3.out; have := HZ4.out; have := HZ6.out; have := HGG.out; have := HY7.out; have := HZ8.out; have := HZ10.out; omega)))
  have HZ11 := Lib.hid ht.size
  have HW11a := Lib.hid hw1.sl
  have HW11b := Lib.hid hw2.sl
  obtain ⟨KG, eKG⟩ : ∃ KG, 1 + tr.length + xr.length * 2 = KG := ⟨_, rfl⟩
  rw [eKG]
  have EKG := Lib.hid eKG
  have dKG : decide ((KG : Int) < 0) = false := decide_eq_false (by omega)
  clear ht hw1 hw2 mo1 mo2 map_ me eKG c10_GW0 c10_GW1 c10_GG0 c10_GG1 HD10_W HB10 HD10_G
  go_wp2_with fail
  refine (LawD.heldDevice u11 (.slice aG tr.length pG) (.slice bG xr.length qG) tr.length xr.length 1 HW11a.out HW11b.out LENG.out).mono ?_
  rintro e u12 ⟨rfl, hb⟩
  rw [EKG.out]
  obtain ⟨c13_GW0, c13_GW1⟩ := box_below hb c11_GW0 c11_GW1
  obtain ⟨c13_GG0, c13_GG1⟩ := box_below hb c11_GG0 c11_GG1
  have HD13_W := Lib.hid (HD11_W.out.below hb)
  have HW13_a := Lib.hid (HW11a.out.below hb)
  have HW13_b := Lib.hid (HW11b.out.below hb)
  have HB13 := Lib.hid (HB11.out.trans (hb.mono HB11.out.size))
  have HZ13 := Lib.hid hb.size
  clear hb c11_GW0 c11_GW1 c11_GG0 c11_GG1 HD11_W HW11a HW11b HB11
  go_wp2_with fail
  refine (News.impl u12).mono ?_
  rw [ETR.out, EXR.out]
  rintro e u14 ⟨r14, rfl, ho, hb⟩
  have HLH := Lib.hid (liesD ho)
  have HOH := Lib.hid ho
  obtain ⟨aH, pH, bH, qH, rfl⟩ := form ho.dev
  clear ho
  obtain ⟨c15_GW0, c15_GW1⟩ := box_below hb c13_GW0 c13_GW1
  obtain ⟨c15_GG0, c15_GG1⟩ := box_below hb c13_GG0 c13_GG1
  have HD15_W := Lib.hid (HD13_W.out.below hb)
  have HW15_a := Lib.hid (HW13_a.out.below hb)
  have HW15_b := Lib.hid (HW13_b.out.below hb)
  have HB15 := Lib.hid (HB13.out.trans (hb.mono HB13.out.size))
  have HZ15 := Lib.hid hb.size
  clear hb c13_GW0 c13_GW1 c13_GG0 c13_GG1 HD13_W HW13_a HW13_b HB13
  obtain ⟨U16, eU16, hb, hz, n160, n161⟩ := boxU u14 26 (.slice aH tr.length pH) (.slice bH xr.length qH)
  obtain ⟨GH, eGH⟩ : ∃ GH, u14.heap.size = GH := ⟨_, rfl⟩
  have HGH := Lib.hid eGH
  have HY16 := Lib.hid hz
  rw [eGH] at n160 n161
  clear hz
  obtain ⟨c17_GW0, c17_GW1⟩ := box_below hb c15_GW0 c15_GW1
  obtain ⟨c17_GG0, c17_GG1⟩ := box_below hb c15_GG0 c15_GG1
  have HD17_W := Lib.hid (HD15_W.out.below hb)
  have HD17_H := Lib.hid (HOH.out.below hb)
  have HW17_a := Lib.hid (HW15_a.out.below hb)
  have HW17_b := Lib.hid (HW15_b.out.below hb)
  have HB17 := Lib.hid (HB15.out.trans (hb.mono HB15.out.size))
  have HZ17 := Lib.hid hb.size
  clear hb c15_GW0 c15_GW1 c15_GG0 c15_GG1 HD15_W HOH HW15_a HW15_b HB15
  go_wp2_with fail
  clear eU16 eGH
  refine (LawD.eqDevice U16 _ _ tr xr HD17_H.out.dev HD17_W.out.dev).mono ?_
  rintro e u18 ⟨rfl, hb⟩
  obtain ⟨c19_GW0, c19_GW1⟩ := box_below hb c17_GW0 c17_GW1
  obtain ⟨c19_GG0, c19_GG1⟩ := box_below hb c17_GG0 c17_GG1
  obtain ⟨c19_GH0, c19_GH1⟩ := box_below hb n160 n161
  have HD19_W := Lib.hid (HD17_W.out.below hb)
  have HD19_H := Lib.hid (HD17_H.out.below hb)
  have HW19_a := Lib.hid (HW17_a.out.below hb)
  have HW19_b := Lib.hid (HW17_b.out.below hb)
  have HB19 := Lib.hid (HB17.out.trans (hb.mono HB17.out.size))
  have HZ19 := Lib.hid hb.size
  clear hb c17_GW0 c17_GW1 c17_GG0 c17_GG1 n160 n161 HD17_W HD17_H HW17_a HW17_b HB17
  go_wp2_with fail
  refine (LawD.heldDevice u18 (.slice aG tr.length pG) (.slice bG xr.length qG) tr.length xr.length 1 HW19_a.out HW19_b.out LENG.out).mono ?_
  rintro e u20 ⟨rfl, hb⟩
  rw [EKG.out]
  obtain ⟨c21_GW0, c21_GW1⟩ := box_below hb c19_GW0 c19_GW1
  obtain ⟨c21_GG0, c21_GG1⟩ := box_below hb c19_GG0 c19_GG1
  obtain ⟨c21_GH0, c21_GH1⟩ := box_below hb c19_GH0 c19_GH1
  have HD21_W := Lib.hid (HD19_W.out.below hb)
  have HD21_H := Lib.hid (HD19_H.out.below hb)
  have HW21_a := Lib.hid (HW19_a.out.below hb)
  have HW21_b := Lib.hid (HW19_b.out.below hb)
  have HB21 := Lib.hid (HB19.out.trans (hb.mono HB19.out.size))
  have HZ21 := Lib.hid hb.size
  clear hb c19_GW0 c19_GW1 c19_GG0 c19_GG1 c19_GH0 c19_GH1 HD19_W HD19_H HW19_a HW19_b HB19
  go_wp2_with fail
  go_ret
  exact ⟨rfl, HB21.out⟩
end Go.Proofs.Ytmgokpkogjdfhaa.ExNewDevice
