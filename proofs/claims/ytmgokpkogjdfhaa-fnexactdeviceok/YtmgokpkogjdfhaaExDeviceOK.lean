/-
  What is proved: the exact law on DeviceOK returns true (the walk).
-/
import Derived.Test.YtmgokpkogjdfhaaRows
import Derived.Test.YtmgokpkogjdfhaaEx
import Derived.Test.YtmgokpkogjdfhaaRight
namespace Go.Proofs.Ytmgokpkogjdfhaa.ExDeviceOK
open Go.ChangeShapes Go.WideShapes Go.ChangeAt Go.RowKit
open Sl (Sl Own Off)
open OpenSl (tc nc pc)
open Dev Ex
open LawD (Fits)
set_option linter.unusedVariables false

set_option maxRecDepth 100000 in
set_option maxHeartbeats 3200000 in
theorem walk (w : World) (v : Value) (ts : List ByteArray) (xs : List (Int × ByteArray)) (hD : Dev w v ts xs) (hsD : ∀ s ∈ ts, s.size ≤ maxLen) (hxD : ∀ y ∈ xs, y.2.size ≤ maxLen) :
    Calls Try.prog 6 #[v] w fun e w' => e = .returned (.bool true) ∧ Below w.heap.size w w' := by
  have HVD := Lib.hid hD
  obtain ⟨sD, uD, rfl, _, _⟩ := hD
  have HSD := Lib.hid hsD
  have HXD := Lib.hid hxD
  clear hsD hxD
  have HB0 := Lib.hid (Below.refl w.heap.size w)
  obtain ⟨q, eq⟩ : ∃ q, decide (Right.Rt ts xs) = q := ⟨_, rfl⟩
  have EQ := Lib.hid eq
  clear eq
  obtain ⟨U1, eU1, hb, hz, n10, n11⟩ := boxU w 48 sD uD
  obtain ⟨GD, eGD⟩ : ∃ GD, w.heap.size = GD := ⟨_, rfl⟩
  have HGD := Lib.hid eGD
  have HY1 := Lib.hid hz
  rw [eGD] at n10 n11
  clear hz
  have HD2_D := Lib.hid (HVD.out.below hb)
  have HB2 := Lib.hid (HB0.out.trans (hb.mono HB0.out.size))
  have HZ2 := Lib.hid hb.size
  clear hb HVD HB0
  go_enter Try.func6, Try.ntmps6
  go_wp2_with fail
  clear eU1 eGD
  refine (LawD.szDevice U1 _ ts xs HD2_D.out HSD.out HXD.out 1048576 (by omega)).mono ?_
  rintro e u3 ⟨⟨r, rfl, hr⟩, hb⟩
  obtain ⟨c4_GD0, c4_GD1⟩ := box_below hb n10 n11
  have HD4_D := Lib.hid (HD2_D.out.below hb)
  have HB4 := Lib.hid (HB2.out.trans (hb.mono HB2.out.size))
  have HZ4 := Lib.hid hb.size
  clear hb n10 n11 HD2_D HB2
  rcases hr with rfl | ⟨R3, rfl, hR3, hfit⟩
  · go_wp2_with fail
    go_ret
    exact ⟨rfl, HB4.out⟩
  have HFITD := Lib.hid hfit
  clear hfit
  have dR3 : decide ((R3 : Int) < 0) = false := decide_eq_false (by omega)
  go_wp2_with fail
  refine (LawD.toDevice u3 _ ts xs HD4_D.out HFITD.out.1 HFITD.out.2.1).mono ?_
  rintro e u5 ⟨r5, rfl, ho, hb⟩
  have HLc1 := Lib.hid (liesD ho)
  have HOc1 := Lib.hid ho
  clear ho
  obtain ⟨c6_GD0, c6_GD1⟩ := box_below hb c4_GD0 c4_GD1
  have HD6_D := Lib.hid (HD4_D.out.below hb)
  have HB6 := Lib.hid (HB4.out.trans (hb.mono HB4.out.size))
  have HZ6 := Lib.hid hb.size
  clear hb c4_GD0 c4_GD1 HD4_D HB4
  go_wp2_with fail
  refine (Right.deviceOK u5 _ ts xs HOc1.out.dev).mono ?_
  rintro e u7 ⟨rfl, hb⟩
  obtain ⟨c8_GD0, c8_GD1⟩ := box_below hb c6_GD0 c6_GD1
  have HD8_D := Lib.hid (HD6_D.out.below hb)
  have HD8_c1 := Lib.hid (HOc1.out.below hb)
  have HB8 := Lib.hid (HB6.out.trans (hb.mono HB6.out.size))
  have HZ8 := Lib.hid hb.size
  clear hb c6_GD0 c6_GD1 HD6_D HOc1 HB6
  rw [EQ.out]
  go_wp2_with fail
  refine (LawD.toDevice u7 _ ts xs HD8_D.out HFITD.out.1 HFITD.out.2.1).mono ?_
  rintro e u9 ⟨r9, rfl, ho, hb⟩
  have HLX := Lib.hid (liesD ho)
  have HOX := Lib.hid ho
  clear ho
  obtain ⟨c10_GD0, c10_GD1⟩ := box_below hb c8_GD0 c8_GD1
  have HD10_D := Lib.hid (HD8_D.out.below hb)
  have HB10 := Lib.hid (HB8.out.trans (hb.mono HB8.out.size))
  have HZ10 := Lib.hid hb.size
  clear hb c8_GD0 c8_GD1 HD8_D HB8
  obtain ⟨a11, p11, b11, q11, rfl⟩ := form HOX.out.dev
  obtain ⟨U12, eU12, hb, hz, n120, n121⟩ := boxU u9 26 (.slice a11 ts.length p11) (.slice b11 xs.length q11)
  obtain ⟨GX, eGX⟩ : ∃ GX, u9.heap.size = GX := ⟨_, rfl⟩
  have HGX := Lib.hid eGX
  have HY12 := Lib.hid hz
  rw [eGX] at n120 n121
  clear hz
  obtain ⟨c13_GD0, c13_GD1⟩ := box_below hb c10_GD0 c10_GD1
  have HD13_D := Lib.hid (HD10_D.out.below hb)
  have HD13_X := Lib.hid (HOX.out.below hb)
  have HB13 := Lib.hid (HB10.out.trans (hb.mono HB10.out.size))
  have HZ13 := Lib.hid hb.size
  clear hb c10_GD0 c10_GD1 HD10_D HOX HB10
  go_wp2_with fail
  clear eU12 eGX
  refine (Right.implOK U12 _ ts xs HD13_X.out.dev).mono ?_
  rintro e u14 ⟨rfl, hb⟩
  obtain ⟨c15_GD0, c15_GD1⟩ := box_below hb c13_GD0 c13_GD1
  obtain ⟨c15_GX0, c15_GX1⟩ := box_below hb n120 n121
  have HD15_D := Lib.hid (HD13_D.out.below hb)
  have HD15_X := Lib.hid (HD13_X.out.below hb)
  have HB15 := Lib.hid (HB13.out.trans (hb.mono HB13.out.size))
  have HZ15 := Lib.hid hb.size
  clear hb c13_GD0 c13_GD1 n120 n121 HD13_D HD13_X HB13
  rw [EQ.out]
  have HQ := Lib.hid (fun u (hb : Below u14.heap.size u14 u) => (box_below hb c15_GX0 c15_GX1))
  have HQ2 := Lib.hid (fun u (hb : Below u14.heap.size u14 u) => (box_below hb c15_GD0 c15_GD1))
  go_wp2_with fail
  go_region_with (first
    | (go_at_call 35; refine (LawD.toDevice _ _ ts xs (HD15_D.out.below (below_drewN (Below.refl _ _) _)) HFITD.out.1 HFITD.out.2.1).mono ?_; rintro e y1 ⟨rr, rfl, ho, hb⟩; have HEY : Hid (Below u14.heap.size u14 y1) := Lib.hid ⟨hb.os, hb.tape, hb.output, hb.size, hb.block⟩; have HOY := Lib.hid ho; obtain ⟨e0, e1⟩ := HQ.out y1 HEY.out; obtain ⟨e2, e3⟩ := HQ2.out y1 HEY.out; clear ho hb)
    | (go_at_call 30; refine (LawD.eqDevice _ _ _ ts xs (HD15_X.out.dev.below (by first | exact HEY.out | exact below_drewN HEY.out _)) HOY.out.dev).mono ?_; rintro e y2 ⟨rfl, hb⟩; have HEZ := Lib.hid hb; clear hb))
  all_goals
    have hb : Below u14.heap.size u14 y2 := HEY.out.trans (HEZ.out.mono HEY.out.size)
    clear HQ HQ2 HEY HEZ HOY
  all_goals
    obtain ⟨c17_GD0, c17_GD1⟩ := box_below hb c15_GD0 c15_GD1
    obtain ⟨c17_GX0, c17_GX1⟩ := box_below hb c15_GX0 c15_GX1
    have HD17_D := Lib.hid (HD15_D.out.below hb)
    have HD17_X := Lib.hid (HD15_X.out.below hb)
    have HB17 := Lib.hid (HB15.out.trans (hb.mono HB15.out.size))
    have HZ17 := Lib.hid hb.size
    clear hb c15_GD0 c15_GD1 c15_GX0 c15_GX1 HD15_D HD15_X HB15
    go_wp2_with fail
    go_ret
    exact ⟨rfl, HB17.out⟩

theorem walk_any {H : Type} {enc : TypeId × Value → H} {W : World} {base b0 : Nat} {spare : Nat → Bool} {held : Bool} {v : Value} {d : DataW H} {p : List MemPlace}
    (o : Value.okWide Try.prog W .any b0 48 v) (h : DataW.Trod enc Try.prog W base spare held 48 v d p) :
    Calls Try.prog 6 #[v] W fun e w' => e = .returned (.bool true) ∧ Below W.heap.size W w' := by
  obtain ⟨ts, xs, hd, hs, hx⟩ := open_dev o h
  exact walk W v ts xs  hd hs hx
end Go.Proofs.Ytmgokpkogjdfhaa.ExDeviceOK
