/-
  What is proved: the exact law on SameDevice returns true (the walk).
-/
import Derived.Test.YtmgokpkogjdfhaaRows
import Derived.Test.YtmgokpkogjdfhaaEx
import Derived.Test.YtmgokpkogjdfhaaSame2
namespace Go.Proofs.Ytmgokpkogjdfhaa.ExSameDevice
open Go.ChangeShapes Go.WideShapes Go.ChangeAt Go.RowKit
open Sl (Sl Own Off)
open OpenSl (tc nc pc)
open Dev Ex
open LawD (Fits)
set_option linter.unusedVariables false

set_option maxRecDepth 100000 in
set_option maxHeartbeats 3200000 in
theorem walk (w : World) (v u : Value) (tA tB : List ByteArray) (xA xB : List (Int × ByteArray)) (hA : Dev w v tA xA) (hsA : ∀ s ∈ tA, s.size ≤ maxLen) (hxA : ∀ y ∈ xA, y.2.size ≤ maxLen) (hB : Dev w u tB xB) (hsB : ∀ s ∈ tB, s.size ≤ maxLen) (hxB : ∀ y ∈ xB, y.2.size ≤ maxLen) :
    Calls Try.prog 12 #[v, u] w fun e w' => e = .returned (.bool true) ∧ Below w.heap.size w w' := by
  have HVA := Lib.hid hA
  obtain ⟨sA, uA, rfl, _, _⟩ := hA
  have HSA := Lib.hid hsA
  have HXA := Lib.hid hxA
  clear hsA hxA
  have HVB := Lib.hid hB
  obtain ⟨sB, uB, rfl, _, _⟩ := hB
  have HSB := Lib.hid hsB
  have HXB := Lib.hid hxB
  clear hsB hxB
  have HB0 := Lib.hid (Below.refl w.heap.size w)
  obtain ⟨q, eq⟩ : ∃ q, decide (tA = tB ∧ xA = xB) = q := ⟨_, rfl⟩
  have EQ := Lib.hid eq
  clear eq
  obtain ⟨U1, eU1, hb, hz, n10, n11⟩ := boxU w 48 sA uA
  obtain ⟨GA, eGA⟩ : ∃ GA, w.heap.size = GA := ⟨_, rfl⟩
  have HGA := Lib.hid eGA
  have HY1 := Lib.hid hz
  rw [eGA] at n10 n11
  clear hz
  have HD2_A := Lib.hid (HVA.out.below hb)
  have HD2_B := Lib.hid (HVB.out.below hb)
  have HB2 := Lib.hid (HB0.out.trans (hb.mono HB0.out.size))
  have HZ2 := Lib.hid hb.size
  clear hb HVA HVB HB0
  obtain ⟨U3, eU3, hb, hz, n30, n31⟩ := boxU U1 48 sB uB
  obtain ⟨GB, eGB⟩ : ∃ GB, U1.heap.size = GB := ⟨_, rfl⟩
  have HGB := Lib.hid eGB
  have HY3 := Lib.hid hz
  rw [eGB] at n30 n31
  clear hz
  obtain ⟨c4_GA0, c4_GA1⟩ := box_below hb n10 n11
  have HD4_A := Lib.hid (HD2_A.out.below hb)
  have HD4_B := Lib.hid (HD2_B.out.below hb)
  have HB4 := Lib.hid (HB2.out.trans (hb.mono HB2.out.size))
  have HZ4 := Lib.hid hb.size
  clear hb n10 n11 HD2_A HD2_B HB2
  go_enter Try.func12, Try.ntmps12
  go_wp2_with fail
  clear eU1 eGA eU3 eGB
  refine (LawD.szDevice U3 _ tA xA HD4_A.out HSA.out HXA.out 1048576 (by omega)).mono ?_
  rintro e u5 ⟨⟨r, rfl, hr⟩, hb⟩
  obtain ⟨c6_GA0, c6_GA1⟩ := box_below hb c4_GA0 c4_GA1
  obtain ⟨c6_GB0, c6_GB1⟩ := box_below hb n30 n31
  have HD6_A := Lib.hid (HD4_A.out.below hb)
  have HD6_B := Lib.hid (HD4_B.out.below hb)
  have HB6 := Lib.hid (HB4.out.trans (hb.mono HB4.out.size))
  have HZ6 := Lib.hid hb.size
  clear hb c4_GA0 c4_GA1 n30 n31 HD4_A HD4_B HB4
  rcases hr with rfl | ⟨R5, rfl, hR5, hfit⟩
  · go_wp2_with fail
    go_ret
    exact ⟨rfl, HB6.out⟩
  have HFITA := Lib.hid hfit
  clear hfit
  have dR5 : decide ((R5 : Int) < 0) = false := decide_eq_false (by omega)
  go_wp2_with fail
  refine (LawD.szDevice u5 _ tB xB HD6_B.out HSB.out HXB.out R5 (by omega)).mono ?_
  rintro e u7 ⟨⟨r, rfl, hr⟩, hb⟩
  obtain ⟨c8_GA0, c8_GA1⟩ := box_below hb c6_GA0 c6_GA1
  obtain ⟨c8_GB0, c8_GB1⟩ := box_below hb c6_GB0 c6_GB1
  have HD8_A := Lib.hid (HD6_A.out.below hb)
  have HD8_B := Lib.hid (HD6_B.out.below hb)
  have HB8 := Lib.hid (HB6.out.trans (hb.mono HB6.out.size))
  have HZ8 := Lib.hid hb.size
  clear hb c6_GA0 c6_GA1 c6_GB0 c6_GB1 HD6_A HD6_B HB6
  rcases hr with rfl | ⟨R7, rfl, hR7, hfit⟩
  · go_wp2_with fail
    go_ret
    exact ⟨rfl, HB8.out⟩
  have HFITB := Lib.hid hfit
  clear hfit
  have dR7 : decide ((R7 : Int) < 0) = false := decide_eq_false (by omega)
  have HQA := Lib.hid (fun u (hb : Below u7.heap.size u7 u) => (box_below hb c8_GA0 c8_GA1))
  have HQB := Lib.hid (fun u (hb : Below u7.heap.size u7 u) => (box_below hb c8_GB0 c8_GB1))
  go_wp2_with fail
  go_region_held3 (fun w' => w'.cell? ⟨GA, 0, none⟩ = some sA ∧ w'.cell? ⟨GA, 1, none⟩ = some uA ∧ w'.cell? ⟨GB, 0, none⟩ = some sB ∧ w'.cell? ⟨GB, 1, none⟩ = some uB)
    (first | exact ⟨c8_GA0, c8_GA1, c8_GB0, c8_GB1⟩ | exact ⟨e4, e5, e6, e7⟩ | exact ⟨e0, e1, e2, e3⟩)
    (first
    | (go_at_call 35; have hx := HEY1.out; clear hx; refine (LawD.toDevice _ (.agg #[sB, uB]) tB xB (HD8_B.out.below (by first | exact below_drewN (Below.refl _ _) _ | exact HEY1.out | exact below_drewN HEY1.out _)) HFITB.out.1 HFITB.out.2.1).mono ?_; rintro e y2 ⟨rr2, rfl, ho, hb⟩; have HFY2 := Lib.hid hb; have HEY2 : Hid (Below u7.heap.size u7 y2) := Lib.hid (by first | exact Below.trans (below_drewN (Below.refl _ _) _) hb | exact HEY1.out.trans (hb.mono HEY1.out.size)); have HOY2 := Lib.hid ho; obtain ⟨e0, e1⟩ := HQA.out y2 HEY2.out; obtain ⟨e2, e3⟩ := HQB.out y2 HEY2.out; clear ho hb)
    | (go_at_call 35; refine (LawD.toDevice _ (.agg #[sA, uA]) tA xA (HD8_A.out.below (by first | exact below_drewN (Below.refl _ _) _ | exact HEY2.out | exact below_drewN HEY2.out _)) HFITA.out.1 HFITA.out.2.1).mono ?_; rintro e y1 ⟨rr1, rfl, ho, hb⟩; have HFY1 := Lib.hid hb; have HEY1 : Hid (Below u7.heap.size u7 y1) := Lib.hid (by first | exact Below.trans (below_drewN (Below.refl _ _) _) hb | exact HEY2.out.trans (hb.mono HEY2.out.size)); have HOY1 := Lib.hid ho; obtain ⟨e0, e1⟩ := HQA.out y1 HEY1.out; obtain ⟨e2, e3⟩ := HQB.out y1 HEY1.out; clear ho hb)
    | (go_at_call 42; refine (Same2.spec _ _ _ tA tB xA xB (HOY1.out.dev.below (by first | exact HFY2.out | exact below_drewN HFY2.out _)) (HOY2.out.dev.below (by first | exact Below.refl _ _ | exact below_drewN (Below.refl _ _) _))).mono ?_; rw [EQ.out]; rintro e y3 ⟨rfl, hb⟩; have HEZ := Lib.hid (HEY2.out.trans (hb.mono HEY2.out.size)); obtain ⟨e4, e5⟩ := HQA.out y3 HEZ.out; obtain ⟨e6, e7⟩ := HQB.out y3 HEZ.out; clear hb))
  have hb : Below u7.heap.size u7 y3 := HEZ.out
  clear e0 e1 e2 e3 e4 e5 e6 e7 HQA HQB HEY1 HEY2 HFY1 HFY2 HOY1 HOY2 HEZ
  obtain ⟨c9_GA0, c9_GA1⟩ := box_below hb c8_GA0 c8_GA1
  obtain ⟨c9_GB0, c9_GB1⟩ := box_below hb c8_GB0 c8_GB1
  have HD9_A := Lib.hid (HD8_A.out.below hb)
  have HD9_B := Lib.hid (HD8_B.out.below hb)
  have HB9 := Lib.hid (HB8.out.trans (hb.mono HB8.out.size))
  have HZ9 := Lib.hid hb.size
  clear hb c8_GA0 c8_GA1 c8_GB0 c8_GB1 HD8_A HD8_B HB8
  go_wp2_with fail
  refine (LawD.toDevice y3 _ tA xA HD9_A.out HFITA.out.1 HFITA.out.2.1).mono ?_
  rintro e u10 ⟨r10, rfl, ho, hb⟩
  have HLX := Lib.hid (liesD ho)
  have HOX := Lib.hid ho
  clear ho
  obtain ⟨c11_GA0, c11_GA1⟩ := box_below hb c9_GA0 c9_GA1
  obtain ⟨c11_GB0, c11_GB1⟩ := box_below hb c9_GB0 c9_GB1
  have HD11_A := Lib.hid (HD9_A.out.below hb)
  have HD11_B := Lib.hid (HD9_B.out.below hb)
  have HB11 := Lib.hid (HB9.out.trans (hb.mono HB9.out.size))
  have HZ11 := Lib.hid hb.size
  clear hb c9_GA0 c9_GA1 c9_GB0 c9_GB1 HD9_A HD9_B HB9
  obtain ⟨a12, p12, b12, q12, rfl⟩ := form HOX.out.dev
  obtain ⟨U13, eU13, hb, hz, n130, n131⟩ := boxU u10 26 (.slice a12 tA.length p12) (.slice b12 xA.length q12)
  obtain ⟨GX, eGX⟩ : ∃ GX, u10.heap.size = GX := ⟨_, rfl⟩
  have HGX := Lib.hid eGX
  have HY13 := Lib.hid hz
  rw [eGX] at n130 n131
  clear hz
  obtain ⟨c14_GA0, c14_GA1⟩ := box_below hb c11_GA0 c11_GA1
  obtain ⟨c14_GB0, c14_GB1⟩ := box_below hb c11_GB0 c11_GB1
  have HD14_A := Lib.hid (HD11_A.out.below hb)
  have HD14_B := Lib.hid (HD11_B.out.below hb)
  have HD14_X := Lib.hid (HOX.out.below hb)
  have HB14 := Lib.hid (HB11.out.trans (hb.mono HB11.out.size))
  have HZ14 := Lib.hid hb.size
  clear hb c11_GA0 c11_GA1 c11_GB0 c11_GB1 HD11_A HD11_B HOX HB11
  go_wp2_with fail
  clear eU13 eGX
  refine (LawD.toDevice U13 _ tB xB HD14_B.out HFITB.out.1 HFITB.out.2.1).mono ?_
  rintro e u15 ⟨r15, rfl, ho, hb⟩
  have HLY := Lib.hid (liesD ho)
  have HOY := Lib.hid ho
  clear ho
  obtain ⟨c16_GA0, c16_GA1⟩ := box_below hb c14_GA0 c14_GA1
  obtain ⟨c16_GB0, c16_GB1⟩ := box_below hb c14_GB0 c14_GB1
  obtain ⟨c16_GX0, c16_GX1⟩ := box_below hb n130 n131
  have HD16_A := Lib.hid (HD14_A.out.below hb)
  have HD16_B := Lib.hid (HD14_B.out.below hb)
  have HD16_X := Lib.hid (HD14_X.out.below hb)
  have HB16 := Lib.hid (HB14.out.trans (hb.mono HB14.out.size))
  have HZ16 := Lib.hid hb.size
  clear hb c14_GA0 c14_GA1 c14_GB0 c14_GB1 n130 n131 HD14_A HD14_B HD14_X HB14
  obtain ⟨a17, p17, b17, q17, rfl⟩ := form HOY.out.dev
  obtain ⟨U18, eU18, hb, hz, n180, n181⟩ := boxU u15 26 (.slice a17 tB.length p17) (.slice b17 xB.length q17)
  obtain ⟨GY, eGY⟩ : ∃ GY, u15.heap.size = GY := ⟨_, rfl⟩
  have HGY := Lib.hid eGY
  have HY18 := Lib.hid hz
  rw [eGY] at n180 n181
  clear hz
  obtain ⟨c19_GA0, c19_GA1⟩ := box_below hb c16_GA0 c16_GA1
  obtain ⟨c19_GB0, c19_GB1⟩ := box_below hb c16_GB0 c16_GB1
  obtain ⟨c19_GX0, c19_GX1⟩ := box_below hb c16_GX0 c16_GX1
  have HD19_A := Lib.hid (HD16_A.out.below hb)
  have HD19_B := Lib.hid (HD16_B.out.below hb)
  have HD19_X := Lib.hid (HD16_X.out.below hb)
  have HD19_Y := Lib.hid (HOY.out.below hb)
  have HB19 := Lib.hid (HB16.out.trans (hb.mono HB16.out.size))
  have HZ19 := Lib.hid hb.size
  clear hb c16_GA0 c16_GA1 c16_GB0 c16_GB1 c16_GX0 c16_GX1 HD16_A HD16_B HD16_X HOY HB16
  go_wp2_with fail
  clear eU18 eGY
  refine (Same.impl U18 _ _ tA tB xA xB HD19_X.out.dev HD19_Y.out.dev).mono ?_
  rw [EQ.out]
  rintro e u20 ⟨rfl, hb⟩
  obtain ⟨c21_GA0, c21_GA1⟩ := box_below hb c19_GA0 c19_GA1
  obtain ⟨c21_GB0, c21_GB1⟩ := box_below hb c19_GB0 c19_GB1
  obtain ⟨c21_GX0, c21_GX1⟩ := box_below hb c19_GX0 c19_GX1
  obtain ⟨c21_GY0, c21_GY1⟩ := box_below hb n180 n181
  have HD21_A := Lib.hid (HD19_A.out.below hb)
  have HD21_B := Lib.hid (HD19_B.out.below hb)
  have HD21_X := Lib.hid (HD19_X.out.below hb)
  have HD21_Y := Lib.hid (HD19_Y.out.below hb)
  have HB21 := Lib.hid (HB19.out.trans (hb.mono HB19.out.size))
  have HZ21 := Lib.hid hb.size
  clear hb c19_GA0 c19_GA1 c19_GB0 c19_GB1 c19_GX0 c19_GX1 n180 n181 HD19_A HD19_B HD19_X HD19_Y HB19
  have HQ := Lib.hid (fun u (hb : Below u20.heap.size u20 u) => (box_below hb c21_GX0 c21_GX1))
  have HQ2 := Lib.hid (fun u (hb : Below u20.heap.size u20 u) => (box_below hb c21_GA0 c21_GA1))
  go_wp2_with fail
  go_region_held3 (fun w' => w'.cell? ⟨GX, 0, none⟩ = some (.slice a12 tA.length p12) ∧ w'.cell? ⟨GX, 1, none⟩ = some (.slice b12 xA.length q12) ∧ w'.cell? ⟨GA, 0, none⟩ = some sA ∧ w'.cell? ⟨GA, 1, none⟩ = some uA)
    (first | exact ⟨c21_GX0, c21_GX1, c21_GA0, c21_GA1⟩ | exact ⟨e4, e5, e6, e7⟩ | exact ⟨e0, e1, e2, e3⟩)
    (first
    | (go_at_call 35; refine (LawD.toDevice _ _ tA xA (HD21_A.out.below (below_drewN (Below.refl _ _) _)) HFITA.out.1 HFITA.out.2.1).mono ?_; rintro e y22 ⟨rr, rfl, ho, hb⟩; have HEY : Hid (Below u20.heap.size u20 y22) := Lib.hid ⟨hb.os, hb.tape, hb.output, hb.size, hb.block⟩; have HOY := Lib.hid ho; obtain ⟨e0, e1⟩ := HQ.out y22 HEY.out; obtain ⟨e2, e3⟩ := HQ2.out y22 HEY.out; clear ho hb)
    | (go_at_call 30; refine (LawD.eqDevice _ _ _ tA xA (HD21_X.out.dev.below (by first | exact HEY.out | exact below_drewN HEY.out _)) HOY.out.dev).mono ?_; rintro e z22 ⟨rfl, hb⟩; have HEZ := Lib.hid (HEY.out.trans (hb.mono HEY.out.size)); obtain ⟨e4, e5⟩ := HQ.out z22 HEZ.out; obtain ⟨e6, e7⟩ := HQ2.out z22 HEZ.out; clear hb))
  have hb : Below u20.heap.size u20 z22 := HEZ.out
  clear e0 e1 e2 e3 e4 e5 e6 e7 HQ HQ2 HEY HEZ HOY
  obtain ⟨c23_GA0, c23_GA1⟩ := box_below hb c21_GA0 c21_GA1
  obtain ⟨c23_GB0, c23_GB1⟩ := box_below hb c21_GB0 c21_GB1
  obtain ⟨c23_GX0, c23_GX1⟩ := box_below hb c21_GX0 c21_GX1
  obtain ⟨c23_GY0, c23_GY1⟩ := box_below hb c21_GY0 c21_GY1
  have HD23_A := Lib.hid (HD21_A.out.below hb)
  have HD23_B := Lib.hid (HD21_B.out.below hb)
  have HD23_X := Lib.hid (HD21_X.out.below hb)
  have HD23_Y := Lib.hid (HD21_Y.out.below hb)
  have HB23 := Lib.hid (HB21.out.trans (hb.mono HB21.out.size))
  have HZ23 := Lib.hid hb.size
  clear hb c21_GA0 c21_GA1 c21_GB0 c21_GB1 c21_GX0 c21_GX1 c21_GY0 c21_GY1 HD21_A HD21_B HD21_X HD21_Y HB21
  have HQ := Lib.hid (fun u (hb : Below z22.heap.size z22 u) => (box_below hb c23_GY0 c23_GY1))
  have HQ2 := Lib.hid (fun u (hb : Below z22.heap.size z22 u) => (box_below hb c23_GB0 c23_GB1))
  go_wp2_with fail
  go_region_held3 (fun w' => w'.cell? ⟨GY, 0, none⟩ = some (.slice a17 tB.length p17) ∧ w'.cell? ⟨GY, 1, none⟩ = some (.slice b17 xB.length q17) ∧ w'.cell? ⟨GB, 0, none⟩ = some sB ∧ w'.cell? ⟨GB, 1, none⟩ = some uB)
    (first | exact ⟨c23_GY0, c23_GY1, c23_GB0, c23_GB1⟩ | exact ⟨e4, e5, e6, e7⟩ | exact ⟨e0, e1, e2, e3⟩)
    (first
    | (go_at_call 35; refine (LawD.toDevice _ _ tB xB (HD23_B.out.below (below_drewN (Below.refl _ _) _)) HFITB.out.1 HFITB.out.2.1).mono ?_; rintro e y24 ⟨rr, rfl, ho, hb⟩; have HEY : Hid (Below z22.heap.size z22 y24) := Lib.hid ⟨hb.os, hb.tape, hb.output, hb.size, hb.block⟩; have HOY := Lib.hid ho; obtain ⟨e0, e1⟩ := HQ.out y24 HEY.out; obtain ⟨e2, e3⟩ := HQ2.out y24 HEY.out; clear ho hb)
    | (go_at_call 30; refine (LawD.eqDevice _ _ _ tB xB (HD23_Y.out.dev.below (by first | exact HEY.out | exact below_drewN HEY.out _)) HOY.out.dev).mono ?_; rintro e z24 ⟨rfl, hb⟩; have HEZ := Lib.hid (HEY.out.trans (hb.mono HEY.out.size)); obtain ⟨e4, e5⟩ := HQ.out z24 HEZ.out; obtain ⟨e6, e7⟩ := HQ2.out z24 HEZ.out; clear hb))
  have hb : Below z22.heap.size z22 z24 := HEZ.out
  clear e0 e1 e2 e3 e4 e5 e6 e7 HQ HQ2 HEY HEZ HOY
  obtain ⟨c25_GA0, c25_GA1⟩ := box_below hb c23_GA0 c23_GA1
  obtain ⟨c25_GB0, c25_GB1⟩ := box_below hb c23_GB0 c23_GB1
  obtain ⟨c25_GX0, c25_GX1⟩ := box_below hb c23_GX0 c23_GX1
  obtain ⟨c25_GY0, c25_GY1⟩ := box_below hb c23_GY0 c23_GY1
  have HD25_A := Lib.hid (HD23_A.out.below hb)
  have HD25_B := Lib.hid (HD23_B.out.below hb)
  have HD25_X := Lib.hid (HD23_X.out.below hb)
  have HD25_Y := Lib.hid (HD23_Y.out.below hb)
  have HB25 := Lib.hid (HB23.out.trans (hb.mono HB23.out.size))
  have HZ25 := Lib.hid hb.size
  clear hb c23_GA0 c23_GA1 c23_GB0 c23_GB1 c23_GX0 c23_GX1 c23_GY0 c23_GY1 HD23_A HD23_B HD23_X HD23_Y HB23
  go_wp2_with fail
  go_ret
  exact ⟨rfl, HB25.out⟩
theorem walk_any {H : Type} {enc : TypeId × Value → H} {W : World} {base b0 base' b0' : Nat} {spare spare' : Nat → Bool} {held held' : Bool} {v u : Value} {d d' : DataW H} {p p' : List MemPlace}
    (o : Value.okWide Try.prog W .any b0 48 v) (h : DataW.Trod enc Try.prog W base spare held 48 v d p)
    (o' : Value.okWide Try.prog W .any b0' 48 u) (h' : DataW.Trod enc Try.prog W base' spare' held' 48 u d' p') :
    Calls Try.prog 12 #[v, u] W fun e w' => e = .returned (.bool true) ∧ Below W.heap.size W w' := by
  obtain ⟨ts, xs, hd, hs, hx⟩ := open_dev o h
  obtain ⟨ts', xs', hd', hs', hx'⟩ := open_dev o' h'
  exact walk W v u ts ts' xs xs' hd hs hx hd' hs' hx'
end Go.Proofs.Ytmgokpkogjdfhaa.ExSameDevice
